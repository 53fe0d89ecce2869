package medl_test

import (
	"bytes"
	"math"
	"slices"
	"testing"

	"metronome/api"
	"metronome/medl"
)

// sum is the sum of bytes, bit by bit, by long division and not by package crc.
func sum(b []byte) int {
	const divisor = 1<<24 | 0x5d6dcb
	rest := 0
	for _, v := range append(slices.Clone(b), 0, 0, 0) {
		for i := 7; i >= 0; i-- {
			rest = rest<<1 | int(v)>>i&1
			if rest>>24 == 1 {
				rest ^= divisor
			}
		}
	}
	return rest
}

// sealed are bytes, and their sum behind them.
func sealed(b []byte) []byte {
	n := sum(b)
	return append(slices.Clone(b), byte(n>>16), byte(n>>8), byte(n))
}

// open are bytes without a sum.
func open(b []byte) []byte { return slices.Clone(b[:len(b)-3]) }

// four are a number's four bytes.
func four(n int) []byte { return []byte{byte(n >> 24), byte(n >> 16), byte(n >> 8), byte(n)} }

// set is a byte with a bit for each truth that holds.
func set(l []bool) byte {
	n := byte(0)
	for i, holds := range l {
		if holds {
			n += 1 << i
		}
	}
	return n
}

// written are a list's bytes as the chapter writes them.
func written(m api.Medl) []byte {
	b := []byte{0x4d, byte(m.Nodes), byte(len(m.Modes))}
	b = append(b, four(m.Slot)...)
	b = append(b, four(m.Gap)...)
	b = append(b, four(m.Window)...)
	b = append(b, byte(m.Drift), byte(m.Delay), set(m.Cold))
	for _, o := range m.Modes {
		for _, n := range o.Data {
			b = append(b, byte(n))
		}
		b = append(b, set(o.Explicit), set(o.Next))
	}
	return sealed(b)
}

// unset are the n truths of a byte.
func unset(set byte, n int) []bool {
	l := make([]bool, n)
	for i := range l {
		l[i] = i < 8 && set>>i&1 == 1
	}
	return l
}

// number4 is the number of four bytes.
func number4(b []byte) int { return int(b[0])<<24 | int(b[1])<<16 | int(b[2])<<8 | int(b[3]) }

// told is the list that bytes tell, and whether there is one: of the right length, with just these bytes.
func told(b []byte) (api.Medl, bool) {
	if len(b) < 18 || len(b) != 18+int(b[2])*(int(b[1])+2)+3 {
		return api.Medl{}, false
	}
	nodes, modes := int(b[1]), int(b[2])
	m := api.Medl{
		Nodes: nodes, Slot: number4(b[3:]), Gap: number4(b[7:]), Window: number4(b[11:]),
		Drift: int(b[15]), Delay: int(b[16]), Cold: unset(b[17], nodes),
	}
	for k := range modes {
		from := 18 + k*(nodes+2)
		o := api.Mode{Explicit: unset(b[from+nodes], nodes), Next: unset(b[from+nodes+1], modes)}
		for _, n := range b[from : from+nodes] {
			o.Data = append(o.Data, int(n))
		}
		m.Modes = append(m.Modes, o)
	}
	if medl.Check(m) != api.OK || !bytes.Equal(written(m), b) {
		return api.Medl{}, false
	}
	return m, true
}

// wantParse holds Parse against what bytes tell.
func wantParse(t *testing.T, b []byte) {
	t.Helper()
	want, is := told(b)
	m, e := medl.Parse(b)
	if is && (e != api.OK || !same(m, want)) {
		t.Errorf("Parse(%x): %v, %d; want %v", b, m, e, want)
	}
	if !is {
		wantNoList(t, b)
	}
}

// wantNoList asks that bytes are no list's.
func wantNoList(t *testing.T, b []byte) {
	t.Helper()
	if m, e := medl.Parse(b); e != api.ErrBytes || !isNothing(m) || m.Cold != nil || m.Modes != nil {
		t.Errorf("Parse(%x): %v, %d; want ErrBytes", b, m, e)
	}
}

// P7.4: Bytes

func TestBytesByHand(t *testing.T) {
	plain, _ := medl.Plain(4, 0)
	other := api.Medl{
		Nodes: 8, Slot: 0xabcdef, Gap: 0x012345, Window: 0x6789, Drift: 0x21, Delay: 0x3f,
		Cold: []bool{true, false, false, false, false, false, false, true},
		Modes: []api.Mode{
			{Data: []int{0, 1, 2, 3, 4, 5, 6, 7}, Explicit: truths(8, 0, 7), Next: truths(4)},
			{Data: []int{8, 0, 8, 0, 8, 0, 8, 0}, Explicit: truths(8, 0, 1, 7), Next: truths(4, 0)},
			{Data: []int{0, 0, 0, 0, 0, 0, 0, 0}, Explicit: truths(8, 0, 6, 7), Next: truths(4, 3)},
			{Data: []int{1, 1, 2, 2, 3, 3, 4, 4}, Explicit: all(8), Next: all(4)},
		},
	}
	for _, x := range []struct {
		m    api.Medl
		want []byte
	}{
		{plain, []byte{
			0x4d, 4, 1, 0, 0, 0, 138, 0, 0, 0, 38, 0, 0, 0, 16, 0, 1, 0x0f,
			2, 2, 2, 2, 0x0f, 0x01,
		}},
		{other, []byte{
			0x4d, 8, 4, 0x00, 0xab, 0xcd, 0xef, 0x00, 0x01, 0x23, 0x45, 0x00, 0x00, 0x67, 0x89, 0x21, 0x3f, 0x81,
			0, 1, 2, 3, 4, 5, 6, 7, 0x81, 0x00,
			8, 0, 8, 0, 8, 0, 8, 0, 0x83, 0x01,
			0, 0, 0, 0, 0, 0, 0, 0, 0xc1, 0x08,
			1, 1, 2, 2, 3, 3, 4, 4, 0xff, 0x0f,
		}},
	} {
		b, e := medl.Bytes(x.m)
		if e != api.OK || !bytes.Equal(b, sealed(x.want)) {
			t.Errorf("Bytes(%v): %x, %d; want %x", x.m, b, e, sealed(x.want))
		}
		if m, e := medl.Parse(sealed(x.want)); e != api.OK || !same(m, x.m) {
			t.Errorf("Parse(%x): %v, %d; want %v", x.want, m, e, x.m)
		}
	}
}

func TestBytes(t *testing.T) {
	for _, m := range lists() {
		b, e := medl.Bytes(m)
		if e != api.OK || !bytes.Equal(b, written(m)) {
			t.Errorf("Bytes(%v): %x, %d; want %x", m, b, e, written(m))
		}
		if want := 18 + len(m.Modes)*(m.Nodes+2) + 3; len(b) != want {
			t.Errorf("Bytes(%v): %d of them; want %d", m, len(b), want)
		}
	}
}

// P7.6, and of P7.4 Parse of what Bytes answers

func TestThereAndBack(t *testing.T) {
	l := lists()
	c := chance(76)
	for range 2000 {
		l = append(l, c.list())
	}
	for _, m := range l {
		b, _ := medl.Bytes(m)
		x, e := medl.Parse(b)
		if e != api.OK || !same(x, m) || !medl.Same(x, m) {
			t.Errorf("Parse of Bytes(%v): %v, %d", m, x, e)
		}
		if again, e := medl.Bytes(x); e != api.OK || !bytes.Equal(again, b) {
			t.Errorf("Bytes of what is parsed of %x: %x, %d", b, again, e)
		}
	}
}

// P7.4: Parse of what is nothing that Bytes answers

// some are bytes of a few lists.
func some() [][]byte {
	var l [][]byte
	for _, m := range []api.Medl{base(4, 1, 0, 0), base(5, 2, 2, 1), wide(base(6, 3, 64, 64)), base(8, 4, 1, 64), edges()[2]} {
		l = append(l, written(m))
	}
	return l
}

func TestParseOfTooFewOrTooMany(t *testing.T) {
	wantNoList(t, nil)
	wantNoList(t, []byte{})
	for _, b := range some() {
		for n := range len(b) {
			wantNoList(t, b[:n])
			wantNoList(t, b[len(b)-n:])
			if n != len(b)-3 {
				wantNoList(t, sealed(b[:n]))
			}
		}
		wantNoList(t, b[1:])
		for _, more := range []byte{0, 1, 0x4d, 0xff} {
			wantNoList(t, append(slices.Clone(b), more))
			wantNoList(t, append([]byte{more}, b...))
			wantNoList(t, sealed(append(open(b), more)))
		}
		wantNoList(t, append(slices.Clone(b), b...))
		wantNoList(t, sealed(b))
	}
	for n := range 80 {
		for _, v := range []byte{0, 1, 4, 8, 0x4d, 0xff} {
			wantNoList(t, bytes.Repeat([]byte{v}, n))
			wantNoList(t, sealed(bytes.Repeat([]byte{v}, n)))
		}
	}
}

func TestParseWithEachByteAnotherOne(t *testing.T) {
	for _, b := range some() {
		for i := range b {
			x := slices.Clone(b)
			for by := 1; by < 256; by++ {
				x[i] = b[i] ^ byte(by)
				wantNoList(t, x)
			}
		}
	}
}

// TestParseWithASumOfItsOwn makes each byte each other one, with the sum for it: what is left to be refused is the list alone.
func TestParseWithASumOfItsOwn(t *testing.T) {
	lists := 0
	for _, b := range some() {
		front := open(b)
		for i := range front {
			for by := 1; by < 256; by++ {
				front[i] = b[i] ^ byte(by)
				x := sealed(front)
				wantParse(t, x)
				if _, is := told(x); is {
					lists++
				}
			}
			front[i] = b[i]
		}
	}
	if lists == 0 {
		t.Error("no byte made another list")
	}
}

func TestParseOfAnotherMagic(t *testing.T) {
	for _, b := range some() {
		for v := range 256 {
			if v == 0x4d {
				continue
			}
			x := open(b)
			x[0] = byte(v)
			wantNoList(t, sealed(x))
		}
	}
}

// TestParseOfTruthsOfWhatThereIsNot sets, with a sum for it, each bit of a node or a mode that there is not.
func TestParseOfTruthsOfWhatThereIsNot(t *testing.T) {
	for nodes := 4; nodes <= 8; nodes++ {
		for modes := 1; modes <= 4; modes++ {
			b := written(base(nodes, modes, 1, 1))
			with := func(at, bit int) []byte {
				x := open(b)
				x[at] |= 1 << bit
				return sealed(x)
			}
			for bit := nodes; bit < 8; bit++ {
				wantNoList(t, with(17, bit))
				for k := range modes {
					wantNoList(t, with(18+k*(nodes+2)+nodes, bit))
				}
			}
			for bit := modes; bit < 8; bit++ {
				for k := range modes {
					wantNoList(t, with(18+k*(nodes+2)+nodes+1, bit))
				}
			}
		}
	}
}

// TestParseOfListsThatMayNotBe writes, with their sums, lists that Check refuses.
func TestParseOfListsThatMayNotBe(t *testing.T) {
	for _, x := range noLists() {
		wantParse(t, written(x.m))
	}
	for _, nodes := range []int{0, 1, 2, 3, 9, 16, 64, 255} {
		for _, modes := range []int{0, 1, 4, 5, 255} {
			m := api.Medl{Nodes: nodes, Slot: mostSlot, Gap: mostGap, Window: 400_000, Drift: 1, Delay: 1, Cold: all(min(nodes, 8))}
			for range modes {
				m.Modes = append(m.Modes, api.Mode{Data: make([]int, nodes), Explicit: all(min(nodes, 8)), Next: all(min(modes, 8))})
			}
			wantNoList(t, written(m))
		}
	}
	for _, n := range []int{0, 1 << 31, math.MaxUint32} {
		for _, f := range numbers()[1:4] {
			wantNoList(t, written(at(base(4, 2, 1, 1), f.of, n)))
		}
	}
}

func TestParseOfChance(t *testing.T) {
	c := chance(74)
	for range 20000 {
		b := written(c.list())
		front := open(b)
		for range 1 + c.below(3) {
			front[c.below(len(front))] = byte(c.below(256))
		}
		wantParse(t, sealed(front))
		b[c.below(len(b))] ^= byte(c.below(256))
		b[c.below(len(b))] ^= byte(c.below(256))
		wantParse(t, b)
	}
}

// R3

func TestNothingIsChanged(t *testing.T) {
	for _, m := range append(lists(), api.Medl{}, api.Medl{Nodes: 9, Modes: []api.Mode{{Data: []int{9, -1}}, {}}}) {
		whole := roomy(m)
		before := own(whole)
		medl.Check(whole)
		medl.Kind(whole, 0, 0)
		medl.Air(whole, 0, 0)
		medl.MaxAir(whole)
		medl.Precision(whole)
		medl.Listen(whole, 0)
		medl.Retry(whole, 0)
		medl.Bound(whole)
		medl.Same(whole, m)
		medl.Same(m, whole)
		b, _ := medl.Bytes(whole)
		if !same(whole, before) || !roomIsLeft(whole) {
			t.Fatalf("changed: %v, which was %v", whole, before)
		}
		for n := range len(b) + 1 {
			part := slices.Clone(b)
			medl.Parse(part[:n])
			if !bytes.Equal(part, b) {
				t.Fatalf("Parse changed %x, which was %x", part, b)
			}
		}
	}
}

// roomy is a list whose lists have room behind them, in which nobody may write.
func roomy(m api.Medl) api.Medl {
	m = own(m)
	m.Cold = append(m.Cold, true, true)[:len(m.Cold)]
	m.Modes = append(m.Modes, api.Mode{Data: []int{5}})[:len(m.Modes)]
	for k, o := range m.Modes {
		m.Modes[k] = api.Mode{
			Data:     append(o.Data, 5, 5)[:len(o.Data)],
			Explicit: append(o.Explicit, true, true)[:len(o.Explicit)],
			Next:     append(o.Next, true, true)[:len(o.Next)],
		}
	}
	return m
}

// roomIsLeft tells whether nobody wrote into the room behind a list's lists.
func roomIsLeft(m api.Medl) bool {
	more := func(l []bool) bool { return slices.Equal(l[len(l):len(l)+2], all(2)) }
	left := more(m.Cold) && slices.Equal(m.Modes[:len(m.Modes)+1][len(m.Modes)].Data, []int{5})
	for _, o := range m.Modes {
		left = left && more(o.Explicit) && more(o.Next) && slices.Equal(o.Data[len(o.Data):len(o.Data)+2], []int{5, 5})
	}
	return left
}

// spoil writes something else into all lists of a list, and behind them.
func spoil(m api.Medl) {
	flip := func(l []bool) {
		for i := range l {
			l[i] = !l[i]
		}
		_ = append(l, true, true, true)
	}
	flip(m.Cold)
	for k, o := range m.Modes {
		for i := range o.Data {
			o.Data[i] = 77
		}
		_ = append(o.Data, 77, 77, 77)
		flip(o.Explicit)
		flip(o.Next)
		m.Modes[k] = api.Mode{}
	}
	_ = append(m.Modes, api.Mode{Data: []int{77}})
}

func TestBytesShareNothing(t *testing.T) {
	for _, m := range lists() {
		mine := own(m)
		first, _ := medl.Bytes(mine)
		second, _ := medl.Bytes(mine)
		want := written(m)
		for i := range first {
			first[i] = 0xee
		}
		_ = append(first, 0xee, 0xee)
		if !bytes.Equal(second, want) || !same(mine, m) {
			t.Fatalf("who changes Bytes changes %x, which was %x, or %v", second, want, mine)
		}
		spoil(mine)
		if !bytes.Equal(second, want) {
			t.Fatalf("who changes a list changes its Bytes %x, which were %x", second, want)
		}
	}
}

func TestListsShareNothing(t *testing.T) {
	for _, m := range lists() {
		b := written(m)
		first, _ := medl.Parse(b)
		second, _ := medl.Parse(b)
		spoil(first)
		if !same(second, m) || !bytes.Equal(b, written(m)) {
			t.Fatalf("who changes what was parsed changes %v, which was %v, or %x", second, m, b)
		}
		for i := range b {
			b[i] = 0xee
		}
		if !same(second, m) {
			t.Fatalf("who changes bytes changes what was parsed: %v, which was %v", second, m)
		}
	}
	for nodes := 4; nodes <= 8; nodes++ {
		first, _ := medl.Plain(nodes, 1)
		second, _ := medl.Plain(nodes, 1)
		want := own(second)
		spoil(first)
		if !same(second, want) {
			t.Fatalf("who changes a Plain list changes another one: %v, which was %v", second, want)
		}
	}
}

// TestListsOfOneAnswerShareNothing changes one list of an answer after the other: all others stay.
func TestListsOfOneAnswerShareNothing(t *testing.T) {
	made := func() []api.Medl {
		var l []api.Medl
		for _, m := range []api.Medl{base(4, 1, 0, 0), base(8, 4, 1, 1), edges()[2]} {
			x, _ := medl.Parse(written(m))
			l = append(l, x)
		}
		plain, _ := medl.Plain(4, 0)
		return append(l, plain)
	}
	for which := range made() {
		places := 1 + 3*len(made()[which].Modes)
		for place := range places {
			m := made()[which]
			want := own(m)
			turn(&want, place)
			turn(&m, place)
			if !same(m, want) {
				t.Fatalf("who changes one list of an answer changes another one: %v; want %v", m, want)
			}
		}
	}
}

// turn changes one of a list's lists, and what is behind it.
func turn(m *api.Medl, place int) {
	flip := func(l []bool) {
		for i := range l {
			l[i] = !l[i]
		}
		_ = append(l, true, true, true, true, true, true, true, true)
	}
	if place == 0 {
		flip(m.Cold)
		return
	}
	o := m.Modes[(place-1)/3]
	switch (place - 1) % 3 {
	case 0:
		for i := range o.Data {
			o.Data[i] = 77
		}
		_ = append(o.Data, 77, 77, 77, 77, 77, 77, 77, 77)
	case 1:
		flip(o.Explicit)
	case 2:
		flip(o.Next)
	}
}

// R4

func TestTheSameAgain(t *testing.T) {
	for _, m := range lists() {
		first, _ := medl.Bytes(m)
		second, _ := medl.Bytes(own(m))
		if !bytes.Equal(first, second) {
			t.Errorf("Bytes(%v): %x, and %x", m, first, second)
		}
	}
}

// Bound

func TestBound(t *testing.T) {
	const many = 1 << 20
	long := api.Mode{Data: make([]int, many), Explicit: make([]bool, many), Next: make([]bool, many)}
	long.Data[many-1] = 8
	long.Explicit[many-1] = true
	for _, m := range []api.Medl{
		{Nodes: math.MaxInt, Cold: all(many), Modes: []api.Mode{long, long}},
		{Nodes: many, Cold: all(many), Modes: []api.Mode{long, long}},
		{Nodes: 4, Cold: all(4), Modes: slices.Repeat([]api.Mode{long}, 1000)},
		{Nodes: 4, Cold: all(many), Modes: make([]api.Mode, many)},
		{Nodes: math.MinInt, Modes: make([]api.Mode, many)},
	} {
		for _, a := range answers() {
			if n, e := a.of(m, 0, 0); e != api.ErrMedl || n != 0 {
				t.Fatalf("%s of a long list: %d, %d", a.what, n, e)
			}
		}
		want := coldAir
		if m.Nodes >= many {
			want = 86
		}
		if n := medl.MaxAir(m); n != want {
			t.Fatalf("MaxAir of a long list: %d; want %d", n, want)
		}
	}
	a := api.Medl{Cold: all(many), Modes: []api.Mode{long, long}}
	b := own(a)
	if !medl.Same(a, b) {
		t.Error("Same of long lists: false")
	}
	b.Modes[1].Next[many-1] = true
	if medl.Same(a, b) {
		t.Error("Same of long lists: true")
	}
}

func TestBoundOfBytes(t *testing.T) {
	for _, n := range []int{1 << 12, 66_000, 1 << 20} {
		for _, v := range []byte{0, 4, 0x4d, 0xff} {
			wantNoList(t, bytes.Repeat([]byte{v}, n))
		}
		for _, b := range some() {
			wantNoList(t, append(slices.Clone(b), make([]byte, n)...))
		}
	}
	// As long as 255 nodes and 255 modes ask for.
	b := bytes.Repeat([]byte{0xff}, 18+255*257+3)
	wantNoList(t, b)
	b[0] = 0x4d
	wantNoList(t, sealed(open(b)))
}

// P1

func TestNothingPanics(t *testing.T) {
	edge := append(extremes(), 0, 1, 2, 3, 4, 5, 8, 9, 16, 36, 64, 65, 106, 400_000, mostGap, mostGap+1, mostSlot)
	c := chance(1)
	pick := func() int { return edge[c.below(len(edge))] }
	for range 50000 {
		m := c.list()
		for range c.below(3) {
			*numbers()[c.below(6)].of(&m) = pick()
		}
		o := &m.Modes[c.below(len(m.Modes))]
		switch c.below(8) {
		case 0:
			m.Cold = c.truths(c.below(10))
		case 1:
			o.Data = o.Data[:c.below(len(o.Data))]
		case 2:
			o.Explicit = c.truths(c.below(10))
		case 3:
			o.Next = c.truths(c.below(6))
		case 4:
			o.Data[c.below(len(o.Data))] = pick()
		}
		may := medl.Check(m) == api.OK
		mode, node := pick(), pick()
		for _, a := range answers() {
			if n, e := a.of(m, mode, node); !may && e != api.ErrMedl || e != api.OK && n != 0 || e == api.OK && n < 1 {
				t.Fatalf("%s(%v, %d, %d): %d, %d", a.what, m, mode, node, n, e)
			}
		}
		if n := medl.MaxAir(m); n < coldAir || n > 86 {
			t.Fatalf("MaxAir(%v): %d", m, n)
		}
		if x, e := medl.Plain(mode, node); (e == api.OK) == isNothing(x) {
			t.Fatalf("Plain(%d, %d): %v, %d", mode, node, x, e)
		}
		if !medl.Same(m, m) {
			t.Fatalf("Same(%v) with itself: false", m)
		}
	}
}
