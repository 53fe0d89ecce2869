package cstate_test

import (
	"iter"
	"math"
	"slices"
	"strconv"
	"strings"
	"testing"

	"metronome/api"
	"metronome/cstate"
)

// made builds bits from digits without the packages that are tested.
func made(digits string) api.Bits {
	b := api.Bits{N: len(digits), B: make([]byte, (len(digits)+7)/8)}
	for i, d := range []byte(digits) {
		if d == '1' {
			b.B[i/8] |= 128 >> (i % 8)
		}
	}
	return b
}

// digits is a number in width digits, the highest first.
func digits(v, width int) string {
	s := strconv.FormatInt(int64(v), 2)
	return strings.Repeat("0", width-len(s)) + s
}

// written are a state's bits as the chapter writes them.
func written(c api.CState) string {
	return digits(c.Time, 8) + digits(c.Pos, 3) + digits(c.Mode, 2) + digits(c.Next, 3) + digits(c.Member, 8)
}

// chance is a row of numbers by a fixed rule, another one for another start.
type chance uint64

func (c *chance) below(n int) int {
	*c = *c*6364136223846793005 + 1442695040888963407
	return int(uint64(*c>>33) % uint64(n))
}

// drawn is a state that may be with n nodes, by a fixed rule.
func drawn(c *chance, n int) api.CState {
	return api.CState{Time: c.below(256), Pos: c.below(n), Mode: c.below(4), Next: c.below(5), Member: c.below(1 << n)}
}

// states are many that may be with n nodes: all Pos, Modes and Nexts at some Times and Members, and drawn ones.
func states(n int) []api.CState {
	var l []api.CState
	for _, time := range []int{0, 1, 127, 128, 254, 255} {
		for pos := range n {
			for mode := range 4 {
				for next := range 5 {
					for _, member := range []int{0, 1, 5, 1 << (n - 1), 1<<n - 1} {
						l = append(l, api.CState{Time: time, Pos: pos, Mode: mode, Next: next, Member: member})
					}
				}
			}
		}
	}
	c := chance(n)
	for range 2000 {
		l = append(l, drawn(&c, n))
	}
	return l
}

// field is one of a state's, with the greatest number that it may be with n nodes.
type field struct {
	name string
	of   func(*api.CState) *int
	last func(n int) int
}

func fields() []field {
	return []field{
		{"Time", func(c *api.CState) *int { return &c.Time }, func(int) int { return 255 }},
		{"Pos", func(c *api.CState) *int { return &c.Pos }, func(n int) int { return n - 1 }},
		{"Mode", func(c *api.CState) *int { return &c.Mode }, func(int) int { return 3 }},
		{"Next", func(c *api.CState) *int { return &c.Next }, func(int) int { return 4 }},
		{"Member", func(c *api.CState) *int { return &c.Member }, func(n int) int { return []int{4: 15, 5: 31, 6: 63, 7: 127, 8: 255}[n] }},
	}
}

// set is a state with one field as it is told.
func set(c api.CState, f field, v int) api.CState {
	*f.of(&c) = v
	return c
}

// wrong are states that may not be with n nodes: one field, just beyond its limits and far beyond.
func wrong(n int) []api.CState {
	var l []api.CState
	for _, f := range fields() {
		for _, v := range []int{-1, math.MinInt, f.last(n) + 1, math.MaxInt} {
			l = append(l, set(api.CState{Time: 9, Pos: 2, Mode: 1, Next: 1, Member: 6}, f, v))
		}
	}
	return l
}

// noSize are counts of nodes that no cluster has.
func noSize() []int {
	return []int{math.MinInt, math.MinInt32, -8, -4, -1, 0, 1, 2, 3, 9, 10, 16, 63, 64, 65, math.MaxInt32, math.MaxInt}
}

// noNode are numbers that no node has.
func noNode() []int {
	return []int{math.MinInt, math.MinInt32, -64, -8, -1, 8, 9, 31, 32, 63, 64, 65, math.MaxInt32, math.MaxInt}
}

// sets are Members of all kinds: all that may be, some with bits above 2^7, and some below 0.
func sets() []int {
	var l []int
	for m := range 256 {
		l = append(l, m, m|256, m|1<<30, m-256, m-512, m|math.MinInt)
	}
	return append(l, -1, math.MinInt, math.MaxInt, 1<<62, -1<<62)
}

// bitOf is the bit 2^node of a number, reckoned by dividing: the rest of a division is never below 0 here.
func bitOf(member, node int) int {
	for range node {
		member = (member - (member%2+2)%2) / 2
	}
	return (member%2 + 2) % 2
}

// nodesOf are the nodes whose bits are 1.
func nodesOf(member int) []int {
	var l []int
	for node := range 8 {
		if bitOf(member, node) == 1 {
			l = append(l, node)
		}
	}
	return l
}

// refused are bits that bits.Check refuses.
func refused() []api.Bits {
	return []api.Bits{
		{N: -1},
		{N: math.MinInt},
		{N: math.MaxInt},
		{N: 0, B: []byte{0}},
		{N: 1},
		{N: 23, B: []byte{0, 0, 1}},
		{N: 24},
		{N: 24, B: []byte{0, 0}},
		{N: 24, B: []byte{0, 0, 0, 0}},
		{N: 25, B: []byte{0, 0, 0}},
		{N: -24, B: []byte{0, 0, 0}},
		{N: 4097, B: make([]byte, 513)},
	}
}

func wantState(t *testing.T, what string, got api.CState, e api.Errno, want api.CState) {
	t.Helper()
	if e != api.OK || got != want {
		t.Errorf("%s: %+v, %d; want %+v", what, got, e, want)
	}
}

func wantNoState(t *testing.T, what string, got api.CState, e, want api.Errno) {
	t.Helper()
	if e != want || got != (api.CState{}) {
		t.Errorf("%s: %+v, %d; want no state, %d", what, got, e, want)
	}
}

func wantBits(t *testing.T, what string, got api.Bits, e api.Errno, want string) {
	t.Helper()
	if b := made(want); e != api.OK || got.N != b.N || !slices.Equal(got.B, b.B) {
		t.Errorf("%s: %v, %d; want %s", what, got, e, want)
	}
}

func wantNoBits(t *testing.T, what string, got api.Bits, e, want api.Errno) {
	t.Helper()
	if e != want || got.N != 0 || got.B != nil {
		t.Errorf("%s: %v, %d; want no bits, %d", what, got, e, want)
	}
}

// P4.1: Check

func TestCheckWhatMayBe(t *testing.T) {
	for n := 4; n <= 8; n++ {
		for _, c := range states(n) {
			if e := cstate.Check(c, n); e != api.OK {
				t.Fatalf("Check(%+v, %d): %d", c, n, e)
			}
		}
	}
}

func TestCheckEachFieldAtItsEdges(t *testing.T) {
	for n := 4; n <= 8; n++ {
		least := api.CState{}
		greatest := api.CState{Time: 255, Pos: n - 1, Mode: 3, Next: 4, Member: 1<<n - 1}
		for _, c := range []api.CState{least, greatest} {
			for _, f := range fields() {
				last := f.last(n)
				for _, v := range []int{0, 1, last - 1, last} {
					if e := cstate.Check(set(c, f, v), n); e != api.OK {
						t.Errorf("Check with %s %d, %d nodes: %d", f.name, v, n, e)
					}
				}
				for _, v := range []int{-1, -2, math.MinInt, math.MinInt32, last + 1, last + 2, math.MaxInt32, math.MaxInt} {
					if e := cstate.Check(set(c, f, v), n); e != api.ErrState {
						t.Errorf("Check with %s %d, %d nodes: %d; want ErrState", f.name, v, n, e)
					}
				}
			}
		}
	}
}

func TestCheckSizes(t *testing.T) {
	for _, n := range noSize() {
		for _, c := range append(wrong(8), api.CState{}, api.CState{Time: 255, Pos: 3, Mode: 3, Next: 4, Member: 15}) {
			if e := cstate.Check(c, n); e != api.ErrArg {
				t.Errorf("Check(%+v, %d): %d; want ErrArg", c, n, e)
			}
		}
	}
}

func TestCheckHangsOnTheSize(t *testing.T) {
	for n := 4; n <= 8; n++ {
		for pos := range 10 {
			e := cstate.Check(api.CState{Pos: pos}, n)
			if (e == api.OK) != (pos < n) || e != api.OK && e != api.ErrState {
				t.Errorf("Check of Pos %d, %d nodes: %d", pos, n, e)
			}
		}
		for member := range 600 {
			e := cstate.Check(api.CState{Member: member}, n)
			if (e == api.OK) != (len(strconv.FormatInt(int64(member), 2)) <= n) || e != api.OK && e != api.ErrState {
				t.Errorf("Check of Member %d, %d nodes: %d", member, n, e)
			}
		}
	}
}

// P4.1: Bits

func TestBitsExample(t *testing.T) {
	b, e := cstate.Bits(api.CState{Time: 1, Pos: 2, Mode: 1, Member: 5})
	wantBits(t, "Bits", b, e, "000000010100100000000101")
}

func TestBitsOfEachField(t *testing.T) {
	want := map[api.CState]string{
		{}:                     "00000000" + "000" + "00" + "000" + "00000000",
		{Time: 255}:            "11111111" + "000" + "00" + "000" + "00000000",
		{Time: 128}:            "10000000" + "000" + "00" + "000" + "00000000",
		{Pos: 7}:               "00000000" + "111" + "00" + "000" + "00000000",
		{Pos: 1}:               "00000000" + "001" + "00" + "000" + "00000000",
		{Mode: 3}:              "00000000" + "000" + "11" + "000" + "00000000",
		{Mode: 2}:              "00000000" + "000" + "10" + "000" + "00000000",
		{Next: 4}:              "00000000" + "000" + "00" + "100" + "00000000",
		{Next: 1}:              "00000000" + "000" + "00" + "001" + "00000000",
		{Member: 255}:          "00000000" + "000" + "00" + "000" + "11111111",
		{Member: 1}:            "00000000" + "000" + "00" + "000" + "00000001",
		{Member: 128, Time: 1}: "00000001" + "000" + "00" + "000" + "10000000",
		{Time: 255, Pos: 7, Mode: 3, Next: 4, Member: 255}:   "11111111" + "111" + "11" + "100" + "11111111",
		{Time: 0xa5, Pos: 5, Mode: 2, Next: 3, Member: 0x3c}: "10100101" + "101" + "10" + "011" + "00111100",
		{Pos: 4, Mode: 1}:       "00000000" + "100" + "01" + "000" + "00000000",
		{Next: 2, Member: 0xf0}: "00000000" + "000" + "00" + "010" + "11110000",
	}
	for c, s := range want {
		b, e := cstate.Bits(c)
		wantBits(t, "Bits of "+s, b, e, s)
	}
}

func TestBitsOfMany(t *testing.T) {
	for n := 4; n <= 8; n++ {
		for _, c := range states(n) {
			b, e := cstate.Bits(c)
			wantBits(t, "Bits", b, e, written(c))
		}
	}
}

func TestBitsHoldAgainstEightNodes(t *testing.T) {
	// These may be with 8 nodes alone: 7 are too few.
	for _, c := range []api.CState{{Pos: 7}, {Member: 128}, {Pos: 7, Member: 255}, {Time: 3, Pos: 1, Member: 129}} {
		if e := cstate.Check(c, 7); e != api.ErrState {
			t.Errorf("Check(%+v, 7): %d", c, e)
		}
		b, e := cstate.Bits(c)
		wantBits(t, "Bits", b, e, written(c))
	}
}

func TestBitsRefuseWhatMayNotBe(t *testing.T) {
	for _, c := range wrong(8) {
		b, e := cstate.Bits(c)
		wantNoBits(t, "Bits", b, e, api.ErrState)
	}
}

// P4.1: Parse

func TestParseExample(t *testing.T) {
	c, e := cstate.Parse(made("000000010100100000000101"))
	wantState(t, "Parse", c, e, api.CState{Time: 1, Pos: 2, Mode: 1, Member: 5})
}

func TestParseEachField(t *testing.T) {
	greatest := api.CState{Time: 255, Pos: 7, Mode: 3, Next: 4, Member: 255}
	for _, f := range fields() {
		for v := range f.last(8) + 1 {
			for _, c := range []api.CState{set(api.CState{}, f, v), set(greatest, f, v)} {
				got, e := cstate.Parse(made(written(c)))
				wantState(t, "Parse with "+f.name, got, e, c)
			}
		}
	}
}

func TestParseRefusesWhatIsNoStates(t *testing.T) {
	// Next alone can be wrong in 24 bits: the others fill theirs.
	for next := 5; next <= 7; next++ {
		for _, c := range []api.CState{
			{Next: next},
			{Time: 255, Pos: 7, Mode: 3, Next: next, Member: 255},
			{Time: 1, Pos: 2, Mode: 1, Next: next, Member: 5},
		} {
			got, e := cstate.Parse(made(written(c)))
			wantNoState(t, "Parse with Next "+strconv.Itoa(next), got, e, api.ErrState)
		}
	}
}

func TestParseRefusesOtherLengths(t *testing.T) {
	for _, n := range []int{0, 1, 8, 16, 22, 23, 25, 26, 32, 48, 4095, 4096} {
		for _, s := range []string{strings.Repeat("0", n), strings.Repeat("1", n), strings.Repeat("10", n)[:n]} {
			got, e := cstate.Parse(made(s))
			wantNoState(t, "Parse of "+strconv.Itoa(n)+" bits", got, e, api.ErrState)
		}
	}
	got, e := cstate.Parse(api.Bits{})
	wantNoState(t, "Parse of nothing", got, e, api.ErrState)
}

func TestParseRefusesBitsThatMayNotBe(t *testing.T) {
	for _, b := range refused() {
		got, e := cstate.Parse(b)
		wantNoState(t, "Parse of N "+strconv.Itoa(b.N), got, e, api.ErrBits)
	}
}

func TestParseNamesBitsFirst(t *testing.T) {
	// No state's bits in the front, and a byte too many behind them.
	b := made(written(api.CState{Next: 7}))
	b.B = append(b.B, 0)
	got, e := cstate.Parse(b)
	wantNoState(t, "Parse", got, e, api.ErrBits)
}

// P4.2: Step

func TestStepWithinARound(t *testing.T) {
	for n := 4; n <= 8; n++ {
		for _, c := range states(n) {
			if c.Pos == n-1 {
				continue
			}
			want := c
			want.Pos++
			got, e := cstate.Step(c, n)
			wantState(t, "Step", got, e, want)
		}
	}
}

func TestStepFromTheLastSlot(t *testing.T) {
	for n := 4; n <= 8; n++ {
		for time := range 256 {
			for mode := range 4 {
				for next := range 5 {
					want := api.CState{Time: time + 1, Mode: mode, Member: 9}
					if time == 255 {
						want.Time = 0
					}
					if next > 0 {
						want.Mode = next - 1
					}
					got, e := cstate.Step(api.CState{Time: time, Pos: n - 1, Mode: mode, Next: next, Member: 9}, n)
					wantState(t, "Step", got, e, want)
				}
			}
		}
	}
}

func TestStepHangsOnTheSize(t *testing.T) {
	c := api.CState{Time: 7, Pos: 3, Mode: 1, Next: 3, Member: 15}
	got, e := cstate.Step(c, 4)
	wantState(t, "Step of 4", got, e, api.CState{Time: 8, Mode: 2, Member: 15})
	got, e = cstate.Step(c, 5)
	wantState(t, "Step of 5", got, e, api.CState{Time: 7, Pos: 4, Mode: 1, Next: 3, Member: 15})
}

func TestStepRefuses(t *testing.T) {
	for n := 4; n <= 8; n++ {
		for _, c := range wrong(n) {
			got, e := cstate.Step(c, n)
			wantNoState(t, "Step", got, e, api.ErrState)
		}
	}
	for _, n := range noSize() {
		for _, c := range append(wrong(8), api.CState{}, api.CState{Pos: 3}) {
			got, e := cstate.Step(c, n)
			wantNoState(t, "Step of "+strconv.Itoa(n), got, e, api.ErrArg)
		}
	}
}

// P4.2: With, Without, Has

// odd is a state whose other fields may not be: With and Without leave them as they are.
func odd(member int) api.CState {
	return api.CState{Time: -3, Pos: 99, Mode: math.MaxInt, Next: math.MinInt, Member: member}
}

func TestWithAndWithout(t *testing.T) {
	for _, member := range sets() {
		for node := range 8 {
			bit := 1 << node
			with, without := odd(member), odd(member)
			if bitOf(member, node) == 0 {
				with.Member += bit
			} else {
				without.Member -= bit
			}
			if got := cstate.With(odd(member), node); got != with {
				t.Errorf("With(%d, %d): %+v; want %+v", member, node, got, with)
			}
			if got := cstate.Without(odd(member), node); got != without {
				t.Errorf("Without(%d, %d): %+v; want %+v", member, node, got, without)
			}
		}
	}
}

func TestHas(t *testing.T) {
	for _, member := range sets() {
		for node := range 8 {
			if got := cstate.Has(odd(member), node); got != (bitOf(member, node) == 1) {
				t.Errorf("Has(%d, %d): %v", member, node, got)
			}
		}
	}
}

func TestNoSuchNode(t *testing.T) {
	for _, member := range sets() {
		for _, node := range noNode() {
			if got := cstate.With(odd(member), node); got != odd(member) {
				t.Errorf("With(%d, %d): %+v", member, node, got)
			}
			if got := cstate.Without(odd(member), node); got != odd(member) {
				t.Errorf("Without(%d, %d): %+v", member, node, got)
			}
			if cstate.Has(odd(member), node) {
				t.Errorf("Has(%d, %d): true", member, node)
			}
		}
	}
}

// P4.2: Count, Members

func TestCountAndMembers(t *testing.T) {
	for _, member := range sets() {
		want := nodesOf(member)
		if got := slices.Collect(cstate.Members(odd(member))); !slices.Equal(got, want) {
			t.Errorf("Members of %d: %v; want %v", member, got, want)
		}
		if got := cstate.Count(odd(member)); got != len(want) {
			t.Errorf("Count of %d: %d; want %d", member, got, len(want))
		}
	}
}

func TestNobodyAndAll(t *testing.T) {
	for member, want := range map[int][]int{
		0:     nil,
		-256:  nil,
		256:   nil,
		255:   {0, 1, 2, 3, 4, 5, 6, 7},
		-1:    {0, 1, 2, 3, 4, 5, 6, 7},
		0x1ff: {0, 1, 2, 3, 4, 5, 6, 7},
		0x2d:  {0, 2, 3, 5},
		128:   {7},
	} {
		c := api.CState{Member: member}
		if got := slices.Collect(cstate.Members(c)); !slices.Equal(got, want) || cstate.Count(c) != len(want) {
			t.Errorf("Members of %d: %v, %d; want %v", member, got, cstate.Count(c), want)
		}
	}
}

func TestMembersLeftEarly(t *testing.T) {
	for _, member := range []int{255, 0x2d, 128, -1} {
		all := nodesOf(member)
		for stop := range all {
			var got []int
			for node := range cstate.Members(api.CState{Member: member}) {
				got = append(got, node)
				if len(got) > stop {
					break
				}
			}
			if !slices.Equal(got, all[:stop+1]) {
				t.Errorf("Members of %d, left behind %d: %v", member, stop+1, got)
			}
		}
	}
}

func TestMembersTwice(t *testing.T) {
	l := cstate.Members(api.CState{Member: 0x96})
	for node := range l {
		if node != 1 {
			t.Errorf("the first member: %d", node)
		}
		break
	}
	for i := range 2 {
		if got := slices.Collect(l); !slices.Equal(got, []int{1, 2, 4, 7}) {
			t.Errorf("Members, time %d: %v", i, got)
		}
	}
	// One range within another: neither moves the other one on.
	var pairs []int
	for a := range l {
		for b := range l {
			pairs = append(pairs, 10*a+b)
		}
	}
	if !slices.Equal(pairs, []int{11, 12, 14, 17, 21, 22, 24, 27, 41, 42, 44, 47, 71, 72, 74, 77}) {
		t.Errorf("Members within Members: %v", pairs)
	}
}

// P4.3

func TestSlotsByStepping(t *testing.T) {
	for n := 4; n <= 8; n++ {
		for _, a := range []api.CState{
			{Member: 3},
			{Time: 255, Pos: n - 1, Next: 2},
			{Time: 100, Pos: 2, Mode: 3, Member: 1<<n - 1},
		} {
			c := a
			for want := range 256 * n {
				// The other fields do not count.
				b := api.CState{Time: c.Time, Pos: c.Pos, Mode: want % 4, Next: want % 5, Member: want % (1 << n)}
				if got, e := cstate.Slots(a, b, n); e != api.OK || got != want {
					t.Fatalf("Slots(%+v, %+v, %d): %d, %d; want %d", a, b, n, got, e, want)
				}
				c, _ = cstate.Step(c, n)
			}
			if c.Time != a.Time || c.Pos != a.Pos {
				t.Errorf("behind all slots of %d nodes: %+v", n, c)
			}
		}
	}
}

func TestSlotsEdges(t *testing.T) {
	for n := 4; n <= 8; n++ {
		first, last := api.CState{}, api.CState{Time: 255, Pos: n - 1}
		for _, x := range []struct {
			what string
			a, b api.CState
			want int
		}{
			{"to itself, at the beginning", first, first, 0},
			{"to itself, at the end", last, last, 0},
			{"to the next", first, api.CState{Pos: 1}, 1},
			{"to the next round", api.CState{Time: 4, Pos: n - 1}, api.CState{Time: 5}, 1},
			{"over the end", last, first, 1},
			{"to the one ahead", api.CState{Time: 8, Pos: 2}, api.CState{Time: 8, Pos: 1}, 256*n - 1},
			{"to the one ahead, over the end", first, last, 256*n - 1},
			{"a round", api.CState{Time: 8, Pos: 2}, api.CState{Time: 9, Pos: 2}, n},
			{"all but a round", api.CState{Time: 9, Pos: 2}, api.CState{Time: 8, Pos: 2}, 255 * n},
		} {
			if got, e := cstate.Slots(x.a, x.b, n); e != api.OK || got != x.want {
				t.Errorf("Slots %s, %d nodes: %d, %d; want %d", x.what, n, got, e, x.want)
			}
		}
	}
}

func TestSlotsRefuse(t *testing.T) {
	right := api.CState{Time: 2, Pos: 1, Mode: 2, Next: 4, Member: 7}
	for n := 4; n <= 8; n++ {
		for _, c := range wrong(n) {
			for _, pair := range [][2]api.CState{{c, right}, {right, c}, {c, c}} {
				if got, e := cstate.Slots(pair[0], pair[1], n); got != 0 || e != api.ErrState {
					t.Errorf("Slots(%+v, %+v, %d): %d, %d; want ErrState", pair[0], pair[1], n, got, e)
				}
			}
		}
	}
	for _, n := range noSize() {
		for _, c := range append(wrong(8), right) {
			for _, pair := range [][2]api.CState{{c, right}, {right, c}, {c, c}} {
				if got, e := cstate.Slots(pair[0], pair[1], n); got != 0 || e != api.ErrArg {
					t.Errorf("Slots(%+v, %+v, %d): %d, %d; want ErrArg", pair[0], pair[1], n, got, e)
				}
			}
		}
	}
}

// P4.4 and P4.7

func TestThereAndBack(t *testing.T) {
	for n := 4; n <= 8; n++ {
		for _, c := range states(n) {
			b, _ := cstate.Bits(c)
			got, e := cstate.Parse(b)
			wantState(t, "Parse of Bits", got, e, c)
		}
	}
}

func TestBackAndThereOfAllBits(t *testing.T) {
	// All heads of 16 bits, with some Members: each is either refused for its Next or comes back.
	for head := range 1 << 16 {
		for _, member := range []int{0, 255, head % 256} {
			s := digits(head, 16) + digits(member, 8)
			c, e := cstate.Parse(made(s))
			if head%8 > 4 {
				wantNoState(t, "Parse of "+s, c, e, api.ErrState)
				continue
			}
			b, e := cstate.Bits(c)
			wantBits(t, "Bits of Parse", b, e, s)
		}
	}
}

func TestUnlikeStatesHaveUnlikeBits(t *testing.T) {
	seen := make(map[string]api.CState)
	for _, c := range states(8) {
		b, _ := cstate.Bits(c)
		if other, ok := seen[string(b.B)]; ok && other != c {
			t.Fatalf("%+v and %+v have the same bits", c, other)
		}
		seen[string(b.B)] = c
	}
	// Two that are unlike in one field alone.
	c := chance(7)
	for range 2000 {
		a := drawn(&c, 8)
		for _, f := range fields() {
			b := set(a, f, c.below(f.last(8)+1))
			x, _ := cstate.Bits(a)
			y, _ := cstate.Bits(b)
			if slices.Equal(x.B, y.B) != (a == b) {
				t.Fatalf("%+v and %+v: %v, %v", a, b, x, y)
			}
		}
	}
}

// P4.5

func TestWhatFollowsMayBe(t *testing.T) {
	for n := 4; n <= 8; n++ {
		for _, c := range states(n) {
			next, _ := cstate.Step(c, n)
			if e := cstate.Check(next, n); e != api.OK {
				t.Fatalf("Step of %+v, %d nodes: %+v, %d", c, n, next, e)
			}
			for node := range n {
				if e := cstate.Check(cstate.With(c, node), n); e != api.OK {
					t.Fatalf("With(%+v, %d), %d nodes: %d", c, node, n, e)
				}
				if e := cstate.Check(cstate.Without(c, node), n); e != api.OK {
					t.Fatalf("Without(%+v, %d), %d nodes: %d", c, node, n, e)
				}
			}
		}
	}
}

// P4.6

func TestARound(t *testing.T) {
	for n := 4; n <= 8; n++ {
		for _, c := range states(n) {
			want := c
			want.Time, want.Next = c.Time+1, 0
			if c.Time == 255 {
				want.Time = 0
			}
			if c.Next != 0 {
				want.Mode = c.Next - 1
			}
			got := c
			for range n {
				got, _ = cstate.Step(got, n)
			}
			if got != want {
				t.Fatalf("a round of %d slots behind %+v: %+v; want %+v", n, c, got, want)
			}
		}
	}
}

// R3

func TestNothingIsChangedOrShared(t *testing.T) {
	b := made(written(api.CState{Time: 77, Pos: 3, Mode: 2, Next: 1, Member: 0x5a}))
	b.B = append(make([]byte, 0, 8), b.B...)
	before := slices.Clone(b.B[:cap(b.B)])
	c, _ := cstate.Parse(b)
	if b.N != 24 || !slices.Equal(b.B[:cap(b.B)], before) {
		t.Errorf("Parse changed its bits: %v", b)
	}
	x, _ := cstate.Bits(c)
	y, _ := cstate.Bits(c)
	for i := range x.B {
		x.B[i] = 0xff
	}
	_ = append(x.B, 1)
	wantBits(t, "Bits", y, api.OK, written(c))
	z, e := cstate.Bits(c)
	wantBits(t, "Bits once more", z, e, written(c))
}

func TestMembersTellWhatWasThere(t *testing.T) {
	c := api.CState{Member: 6}
	l := cstate.Members(c)
	c.Member = 255
	if got := slices.Collect(l); !slices.Equal(got, []int{1, 2}) {
		t.Errorf("Members: %v", got)
	}
}

// P1

func TestNothingPanics(t *testing.T) {
	numbers := []int{math.MinInt, math.MinInt32, -1, 0, 1, 3, 4, 5, 7, 8, 9, 64, 255, 256, math.MaxInt32, math.MaxInt}
	r := chance(3)
	pick := func() int { return numbers[r.below(len(numbers))] }
	for range 20000 {
		a := api.CState{Time: pick(), Pos: pick(), Mode: pick(), Next: pick(), Member: pick()}
		b := api.CState{Time: pick(), Pos: pick(), Mode: pick(), Next: pick(), Member: pick()}
		n := pick()
		if c, e := cstate.Step(a, n); e != cstate.Check(a, n) || e != api.OK && c != (api.CState{}) {
			t.Fatalf("Step(%+v, %d): %+v, %d", a, n, c, e)
		}
		want := cstate.Check(a, n)
		if want == api.OK {
			want = cstate.Check(b, n)
		}
		if v, e := cstate.Slots(a, b, n); e != want || e != api.OK && v != 0 {
			t.Fatalf("Slots(%+v, %+v, %d): %d, %d", a, b, n, v, e)
		}
		cstate.Bits(a)
		cstate.Parse(api.Bits{N: n, B: make([]byte, r.below(5))})
		cstate.With(a, n)
		cstate.Without(a, n)
		cstate.Has(a, n)
		cstate.Count(a)
		var l iter.Seq[int] = cstate.Members(a)
		for range l {
		}
	}
}
