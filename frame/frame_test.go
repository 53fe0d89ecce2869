package frame_test

import (
	"math"
	"reflect"
	"slices"
	"strconv"
	"strings"
	"testing"

	"metronome/api"
	"metronome/frame"
)

// made builds bits from digits without the packages beneath.
func made(digits string) api.Bits {
	b := api.Bits{N: len(digits), B: make([]byte, (len(digits)+7)/8)}
	for i, d := range []byte(digits) {
		if d == '1' {
			b.B[i/8] |= 128 >> (i % 8)
		}
	}
	return b
}

// textOf are the digits of bits.
func textOf(b api.Bits) string {
	var s strings.Builder
	for i := range b.N {
		s.WriteByte('0' + b.B[i/8]>>(7-i%8)&1)
	}
	return s.String()
}

// digits is a number in width digits, the highest first.
func digits(v, width int) string {
	s := strconv.FormatInt(int64(v), 2)
	return strings.Repeat("0", width-len(s)) + s
}

// divisor are the digits of x^24 and of what chapter 2 calls SumPoly.
const divisor = "1" + "0101" + "1101" + "0110" + "1101" + "1100" + "1011"

// sumOf is a sum's digits, by long division and not by package crc.
func sumOf(s string) string {
	l := []byte(s + strings.Repeat("0", 24))
	for i := range len(s) {
		if l[i] == '0' {
			continue
		}
		for j := range len(divisor) {
			l[i+j] ^= divisor[j] - '0'
		}
	}
	return string(l[len(s):])
}

// sealed are digits and the sum of unsent and them.
func sealed(s, unsent string) string { return s + sumOf(unsent+s) }

// stateDigits are a state's bits as chapter 4 writes them.
func stateDigits(c api.CState) string {
	return digits(c.Time, 8) + digits(c.Pos, 3) + digits(c.Mode, 2) + digits(c.Next, 3) + digits(c.Member, 8)
}

func dataDigits(data []byte) string {
	var s strings.Builder
	for _, v := range data {
		s.WriteString(digits(int(v), 8))
	}
	return s.String()
}

// Forms of the chapter, each of parts that may be or not.

func coldDigits(from, time int, zeros string) string {
	return sealed("00"+digits(from, 3)+digits(time, 8)+zeros, "")
}

func nDigits(req int, data []byte, unsent string) string {
	return sealed("01"+digits(req, 3)+dataDigits(data), unsent)
}

func iDigits(req int, zeros, state string) string {
	return sealed("10"+digits(req, 3)+zeros+state, "")
}

func xDigits(req int, zeros, state string, data []byte, unsent string) string {
	return sealed(sealed("11"+digits(req, 3)+zeros+state, "")+dataDigits(data), unsent)
}

// written are a frame's bits as the chapter writes them.
func written(f api.Frame) string {
	s := stateDigits(f.C)
	switch f.Kind {
	case api.FrCold:
		return coldDigits(f.From, f.C.Time, "000")
	case api.FrN:
		return nDigits(f.Req, f.Data, s)
	case api.FrI:
		return iDigits(f.Req, "0", s)
	}
	return xDigits(f.Req, "00", s, f.Data, s)
}

// chance is a row of numbers by a fixed rule, another one for another start.
type chance uint64

func (c *chance) below(n int) int {
	*c = *c*6364136223846793005 + 1442695040888963407
	return int(uint64(*c>>33) % uint64(n))
}

func (c *chance) state() api.CState {
	return api.CState{Time: c.below(256), Pos: c.below(8), Mode: c.below(4), Next: c.below(5), Member: c.below(256)}
}

func (c *chance) data(n int) []byte {
	var l []byte
	for range n {
		l = append(l, byte(c.below(256)))
	}
	return l
}

var kinds = []int{api.FrCold, api.FrN, api.FrI, api.FrX}

func mayHaveData(kind int) bool { return kind == api.FrN || kind == api.FrX }

// frames are many that may be, of each Kind: fields at their ends, all Reqs, all lengths of Data, and drawn ones.
func frames() []api.Frame {
	var l []api.Frame
	for from := range 8 {
		for _, time := range []int{0, 1, 7, 128, 254, 255} {
			l = append(l, api.Frame{Kind: api.FrCold, From: from, C: api.CState{Time: time}})
		}
	}
	ends := []api.CState{{}, {Time: 255, Pos: 7, Mode: 3, Next: 4, Member: 255}, {Time: 255}, {Pos: 7}, {Mode: 3}, {Next: 4}, {Member: 255}, {Time: 9, Pos: 2, Mode: 1, Member: 15}}
	r := chance(1)
	for req := range 5 {
		for _, c := range append(ends, r.state(), r.state()) {
			l = append(l, api.Frame{Kind: api.FrI, Req: req, C: c})
			for n := range 9 {
				l = append(l, api.Frame{Kind: api.FrN, Req: req, C: c, Data: r.data(n)}, api.Frame{Kind: api.FrX, Req: req, C: c, Data: r.data(n)})
			}
			for _, data := range [][]byte{{}, {0}, {255}, make([]byte, 8), []byte("\xff\xff\xff\xff\xff\xff\xff\xff")} {
				l = append(l, api.Frame{Kind: api.FrN, Req: req, C: c, Data: data}, api.Frame{Kind: api.FrX, Req: req, C: c, Data: data})
			}
		}
	}
	return l
}

// some are a few frames of each Kind, with the least and the most Data.
func some() []api.Frame {
	c := api.CState{Time: 9, Pos: 2, Mode: 1, Next: 3, Member: 15}
	return []api.Frame{
		{Kind: api.FrCold, From: 3, C: api.CState{Time: 7}},
		{Kind: api.FrCold},
		{Kind: api.FrN, Req: 2, C: c, Data: []byte{0xa5, 1}},
		{Kind: api.FrN, C: c},
		{Kind: api.FrN},
		{Kind: api.FrI, Req: 4, C: c},
		{Kind: api.FrI},
		{Kind: api.FrX, Req: 1, C: c, Data: []byte("abcdefgh")},
		{Kind: api.FrX, C: c},
		{Kind: api.FrX},
	}
}

// field is one of a state's, with the greatest number that it may be.
type field struct {
	name string
	of   func(*api.CState) *int
	last int
}

func fields() []field {
	return []field{
		{"Time", func(c *api.CState) *int { return &c.Time }, 255},
		{"Pos", func(c *api.CState) *int { return &c.Pos }, 7},
		{"Mode", func(c *api.CState) *int { return &c.Mode }, 3},
		{"Next", func(c *api.CState) *int { return &c.Next }, 4},
		{"Member", func(c *api.CState) *int { return &c.Member }, 255},
	}
}

// set is a state with one field as it is told.
func set(c api.CState, f field, v int) api.CState {
	*f.of(&c) = v
	return c
}

// outside are numbers just beyond 0 and last, and far beyond.
func outside(last int) []int { return []int{-1, last + 1, math.MinInt, math.MaxInt} }

// noStates are states that may not be: one field, just beyond its limits and far beyond.
func noStates() []api.CState {
	var l []api.CState
	for _, f := range fields() {
		for _, v := range outside(f.last) {
			l = append(l, set(api.CState{Time: 9, Pos: 2, Mode: 1, Next: 1, Member: 6}, f, v), set(api.CState{}, f, v))
		}
	}
	return l
}

// others are states that may be, each unlike c in one field alone, or drawn.
func others(c api.CState) []api.CState {
	var l []api.CState
	for _, f := range fields() {
		for _, v := range []int{0, 1, f.last - 1, f.last, *f.of(&c) ^ 1} {
			if o := set(c, f, v); v <= f.last && o != c {
				l = append(l, o)
			}
		}
	}
	r := chance(5)
	for range 20 {
		if o := r.state(); o != c {
			l = append(l, o)
		}
	}
	return l
}

// noBits are bits that bits.Check refuses.
func noBits() []api.Bits {
	long := made(written(api.Frame{Kind: api.FrI}))
	long.B = append(long.B, 0)
	padded := made(written(api.Frame{Kind: api.FrI}))
	padded.B[6] |= 1
	return []api.Bits{
		{N: -1}, {N: -40, B: make([]byte, 5)}, {N: math.MinInt}, {N: math.MaxInt}, {N: math.MaxInt, B: []byte{1}},
		{N: 0, B: []byte{0}}, {N: 1}, {N: 1, B: []byte{0x40}}, {N: 40, B: make([]byte, 4)}, {N: 29, B: []byte{0, 0, 0, 1}},
		{N: api.MaxBits + 1, B: make([]byte, 513)}, long, padded,
	}
}

func wantErrno(t *testing.T, what string, got, want api.Errno) {
	t.Helper()
	if got != want {
		t.Errorf("%s: %d; want %d", what, got, want)
	}
}

// wantBits asks for bits that are written out, with as many bytes as they need.
func wantBits(t *testing.T, what string, b api.Bits, e api.Errno, want string) {
	t.Helper()
	if w := made(want); e != api.OK || b.N != w.N || !slices.Equal(b.B, w.B) {
		t.Errorf("%s: %v, %d; want %s", what, b, e, want)
	}
}

// like holds frames against each other without frame.Same.
func like(a, b api.Frame) bool {
	return a.Kind == b.Kind && a.Req == b.Req && a.C == b.C && a.From == b.From && string(a.Data) == string(b.Data)
}

func wantFrame(t *testing.T, what string, f api.Frame, e api.Errno, want api.Frame) {
	t.Helper()
	if e != api.OK || !like(f, want) {
		t.Errorf("%s: %+v, %d; want %+v", what, f, e, want)
	}
}

func isEmpty(f api.Frame) bool { return reflect.DeepEqual(f, api.Frame{}) }

// wantNoFrame asks for an error, and nothing beside it.
func wantNoFrame(t *testing.T, what string, f api.Frame, e, want api.Errno) {
	t.Helper()
	if e != want || !isEmpty(f) {
		t.Errorf("%s: %+v, %d; want %d", what, f, e, want)
	}
}

// wantTold asks Good or Explicit for a frame, or for an empty one beside false.
func wantTold(t *testing.T, what string, f api.Frame, is bool, want api.Frame, wantIs bool) {
	t.Helper()
	if is != wantIs || is && !like(f, want) || !is && !isEmpty(f) {
		t.Errorf("%s: %+v, %v; want %+v, %v", what, f, is, want, wantIs)
	}
}

// P5.1: Check

func TestCheckTakesWhatMayBe(t *testing.T) {
	for _, f := range frames() {
		if e := frame.Check(f); e != api.OK {
			t.Errorf("Check(%+v): %d", f, e)
		}
	}
}

func TestCheckKind(t *testing.T) {
	for _, kind := range kinds {
		wantErrno(t, "Check of Kind "+strconv.Itoa(kind), frame.Check(api.Frame{Kind: kind}), api.OK)
	}
	for _, kind := range []int{math.MinInt, math.MinInt32, -4, -1, 0, 5, 6, 8, 256, 257, math.MaxInt32, math.MaxInt} {
		wantErrno(t, "Check of Kind "+strconv.Itoa(kind), frame.Check(api.Frame{Kind: kind}), api.ErrFrame)
	}
}

func TestCheckReq(t *testing.T) {
	for _, kind := range kinds {
		for req := range 5 {
			want := api.OK
			if kind == api.FrCold && req > 0 {
				want = api.ErrFrame
			}
			wantErrno(t, "Check of Kind "+strconv.Itoa(kind)+" with Req "+strconv.Itoa(req), frame.Check(api.Frame{Kind: kind, Req: req}), want)
		}
		for _, req := range append(outside(4), 6, 7, 8) {
			wantErrno(t, "Check of Kind "+strconv.Itoa(kind)+" with Req "+strconv.Itoa(req), frame.Check(api.Frame{Kind: kind, Req: req}), api.ErrFrame)
		}
	}
}

func TestCheckFrom(t *testing.T) {
	for _, kind := range kinds {
		for _, from := range append(outside(7), 0, 1, 2, 3, 4, 5, 6, 7) {
			want := api.ErrFrame
			if from == 0 || kind == api.FrCold && from > 0 && from < 8 {
				want = api.OK
			}
			wantErrno(t, "Check of Kind "+strconv.Itoa(kind)+" with From "+strconv.Itoa(from), frame.Check(api.Frame{Kind: kind, From: from}), want)
		}
	}
}

func TestCheckState(t *testing.T) {
	for _, kind := range kinds {
		for _, f := range fields() {
			for _, v := range []int{0, 1, f.last} {
				want := api.OK
				if kind == api.FrCold && f.name != "Time" && v > 0 {
					want = api.ErrFrame
				}
				for _, c := range []api.CState{{}, {Time: 200}} {
					wantErrno(t, "Check of Kind "+strconv.Itoa(kind)+" with "+f.name+" "+strconv.Itoa(v), frame.Check(api.Frame{Kind: kind, C: set(c, f, v)}), want)
				}
			}
		}
		for _, c := range noStates() {
			wantErrno(t, "Check of a state that may not be", frame.Check(api.Frame{Kind: kind, C: c}), api.ErrFrame)
		}
	}
}

func TestCheckData(t *testing.T) {
	for _, kind := range kinds {
		for _, data := range [][]byte{nil, {}, make([]byte, 0, 9)} {
			wantErrno(t, "Check of Kind "+strconv.Itoa(kind)+" without Data", frame.Check(api.Frame{Kind: kind, Data: data}), api.OK)
		}
		for _, n := range []int{1, 2, 7, 8, 9, 10, 64, 1000} {
			want := api.ErrFrame
			if mayHaveData(kind) && n <= 8 {
				want = api.OK
			}
			wantErrno(t, "Check of Kind "+strconv.Itoa(kind)+" with bytes "+strconv.Itoa(n), frame.Check(api.Frame{Kind: kind, Data: make([]byte, n)}), want)
		}
	}
}

// P5.1: Size

func TestSize(t *testing.T) {
	none := []int{math.MinInt, math.MinInt32, -5, -1, 9, 10, 1 << 60, 1 << 61, math.MaxInt32, math.MaxInt}
	first := map[int]int{api.FrCold: 40, api.FrN: 29, api.FrI: 54, api.FrX: 79}
	for _, kind := range kinds {
		for data := range 9 {
			want := first[kind] + 8*data
			if data > 0 && !mayHaveData(kind) {
				want = 0
			}
			if got := frame.Size(kind, data); got != want {
				t.Errorf("Size(%d, %d): %d; want %d", kind, data, got, want)
			}
		}
		for _, data := range none {
			if got := frame.Size(kind, data); got != 0 {
				t.Errorf("Size(%d, %d): %d; want 0", kind, data, got)
			}
		}
	}
	for _, kind := range []int{math.MinInt, -1, 0, 5, 6, math.MaxInt} {
		for _, data := range append(none, 0, 1, 8) {
			if got := frame.Size(kind, data); got != 0 {
				t.Errorf("Size(%d, %d): %d; want 0", kind, data, got)
			}
		}
	}
}

func TestLengthTellsTheKind(t *testing.T) {
	for _, f := range frames() {
		b, _ := frame.Encode(f)
		if want := []int{api.FrCold: 0, api.FrN: 5, api.FrI: 6, api.FrX: 7}[f.Kind]; b.N%8 != want || b.N != frame.Size(f.Kind, len(f.Data)) {
			t.Fatalf("Encode(%+v): %d bits", f, b.N)
		}
	}
}

// P5.1: Encode

func TestEncodeExample(t *testing.T) {
	b, e := frame.Encode(api.Frame{Kind: api.FrCold, From: 3, C: api.CState{Time: 7}})
	wantBits(t, "Encode", b, e, "00"+"011"+"00000111"+"000"+sumOf("0001100000111000"))
}

func TestEncodeByHand(t *testing.T) {
	c := api.CState{Time: 1, Pos: 2, Mode: 1, Member: 5}
	s := "000000010100100000000101"
	front := "10" + "100" + "0" + s
	b, e := frame.Encode(api.Frame{Kind: api.FrI, Req: 4, C: c})
	wantBits(t, "Encode of FrI", b, e, front+sumOf(front))
	front = "01" + "010" + "10100101" + "00000001"
	b, e = frame.Encode(api.Frame{Kind: api.FrN, Req: 2, C: c, Data: []byte{0xa5, 1}})
	wantBits(t, "Encode of FrN", b, e, front+sumOf(s+front))
	front = "11" + "001" + "00" + s
	front += sumOf(front) + "11111110"
	b, e = frame.Encode(api.Frame{Kind: api.FrX, Req: 1, C: c, Data: []byte{0xfe}})
	wantBits(t, "Encode of FrX", b, e, front+sumOf(s+front))
}

func TestEncode(t *testing.T) {
	for _, f := range frames() {
		b, e := frame.Encode(f)
		wantBits(t, "Encode", b, e, written(f))
	}
}

func TestEncodeRefuses(t *testing.T) {
	l := []api.Frame{
		{}, {Kind: 5}, {Kind: -1}, {Kind: math.MinInt}, {Kind: math.MaxInt},
		{Kind: api.FrCold, Req: 1}, {Kind: api.FrCold, From: 8}, {Kind: api.FrCold, From: -1},
		{Kind: api.FrCold, C: api.CState{Member: 1}}, {Kind: api.FrCold, Data: []byte{1}}, {Kind: api.FrI, Data: []byte{1}},
		// Several at once.
		{Kind: 9, Req: 9, From: 9, C: api.CState{Time: -1}, Data: make([]byte, 9)},
		{Kind: api.FrX, Req: -1, From: 1, C: api.CState{Pos: 8}, Data: make([]byte, 99)},
	}
	for _, kind := range kinds {
		for _, c := range noStates() {
			l = append(l, api.Frame{Kind: kind, C: c})
		}
		for _, req := range outside(4) {
			l = append(l, api.Frame{Kind: kind, Req: req})
		}
		for _, from := range outside(7) {
			l = append(l, api.Frame{Kind: kind, From: from})
		}
		l = append(l, api.Frame{Kind: kind, Data: make([]byte, 9)})
	}
	for _, f := range l {
		if b, e := frame.Encode(f); e != api.ErrFrame || !reflect.DeepEqual(b, api.Bits{}) {
			t.Errorf("Encode(%+v): %v, %d; want ErrFrame", f, b, e)
		}
	}
}

// P5.2: Parse

func TestParseWritten(t *testing.T) {
	for _, f := range frames() {
		got, e := frame.Parse(made(written(f)), f.C)
		wantFrame(t, "Parse", got, e, f)
	}
}

func TestParseHangsOnTheStateOfFrNAlone(t *testing.T) {
	for _, f := range some() {
		for _, c := range others(f.C) {
			got, e := frame.Parse(made(written(f)), c)
			if f.Kind == api.FrN {
				wantNoFrame(t, "Parse of FrN with another state", got, e, api.ErrSum)
			} else {
				wantFrame(t, "Parse with another state", got, e, f)
			}
		}
	}
}

func TestParseRefusesBitsThatMayNotBe(t *testing.T) {
	for _, b := range noBits() {
		for _, c := range append(noStates(), api.CState{}, api.CState{Time: 9, Member: 7}) {
			got, e := frame.Parse(b, c)
			wantNoFrame(t, "Parse of N "+strconv.Itoa(b.N), got, e, api.ErrBits)
		}
	}
}

func TestParseRefusesAStateThatMayNotBe(t *testing.T) {
	l := []api.Bits{{}, made("0"), made("1"), made("01" + strings.Repeat("0", 29)), made(strings.Repeat("1", 79)), made(strings.Repeat("0", 4096))}
	for _, f := range some() {
		l = append(l, made(written(f)))
	}
	for _, b := range l {
		for _, c := range noStates() {
			got, e := frame.Parse(b, c)
			wantNoFrame(t, "Parse of N "+strconv.Itoa(b.N), got, e, api.ErrState)
		}
	}
}

func TestParseTooFewBitsForAKind(t *testing.T) {
	for _, b := range []api.Bits{{}, {B: []byte{}}, {B: make([]byte, 0, 4)}, made("0"), made("1"), made("00"), made("01"), made("10"), made("11")} {
		got, e := frame.Parse(b, api.CState{})
		wantNoFrame(t, "Parse of N "+strconv.Itoa(b.N), got, e, api.ErrForm)
	}
}

// sums puts a right sum, or both of FrX, where they stand in n digits that begin with a Kind, all others 0.
func sums(kind, n int, unsent string) string {
	s := digits(kind-1, 2) + strings.Repeat("0", n-2)
	if kind == api.FrX && n >= 79 {
		s = sealed(s[:31], "") + s[55:]
	}
	if n < 26 {
		return s
	}
	if !mayHaveData(kind) {
		unsent = ""
	}
	return sealed(s[:n-24], unsent)
}

// bytesIn is how many bytes of Data a frame of a Kind has in n bits, and whether there is one so long.
func bytesIn(kind, n int) (int, bool) {
	switch kind {
	case api.FrCold:
		return 0, n == 40
	case api.FrI:
		return 0, n == 54
	case api.FrX:
		n -= 50
	}
	return (n - 29) / 8, n >= 29 && n <= 93 && n%8 == 5
}

func TestParseEachLength(t *testing.T) {
	for _, kind := range kinds {
		for n := 2; n <= 160; n++ {
			what := "Parse of Kind " + strconv.Itoa(kind) + ", bits " + strconv.Itoa(n)
			right := sums(kind, n, stateDigits(api.CState{}))
			got, e := frame.Parse(made(right), api.CState{})
			if data, is := bytesIn(kind, n); is {
				wantFrame(t, what, got, e, api.Frame{Kind: kind, Data: make([]byte, data)})
				continue
			}
			wantNoFrame(t, what, got, e, api.ErrForm)
			for _, fill := range []string{"0", "1"} {
				got, e = frame.Parse(made(right[:2]+strings.Repeat(fill, n-2)), api.CState{})
				wantNoFrame(t, what, got, e, api.ErrForm)
			}
		}
		for _, n := range []int{1000, 4077, 4078, 4079, 4093, 4094, 4095, 4096} {
			got, e := frame.Parse(made(sums(kind, n, stateDigits(api.CState{}))), api.CState{})
			wantNoFrame(t, "Parse of bits "+strconv.Itoa(n), got, e, api.ErrForm)
		}
	}
}

func TestParseAsksForZeros(t *testing.T) {
	c := api.CState{Time: 9, Pos: 2, Mode: 1, Next: 3, Member: 15}
	s := stateDigits(c)
	var l []string
	for zeros := 1; zeros < 8; zeros++ {
		l = append(l, coldDigits(3, 7, digits(zeros, 3)))
	}
	l = append(l, iDigits(2, "1", s))
	for zeros := 1; zeros < 4; zeros++ {
		l = append(l, xDigits(2, digits(zeros, 2), s, nil, s), xDigits(2, digits(zeros, 2), s, []byte{1, 2, 3}, s))
	}
	for _, right := range l {
		got, e := frame.Parse(made(right), c)
		wantNoFrame(t, "Parse of "+right, got, e, api.ErrForm)
		// A sum that is wrong, too, is named later.
		got, e = frame.Parse(made(turned(right, len(right)-1)), c)
		wantNoFrame(t, "Parse of "+right+" with a wrong sum", got, e, api.ErrForm)
	}
}

// turned are digits, some of them turned.
func turned(s string, at ...int) string {
	l := []byte(s)
	for _, i := range at {
		l[i] ^= 1
	}
	return string(l)
}

func TestParseAsksForSums(t *testing.T) {
	for _, f := range some() {
		s := written(f)
		for i := len(s) - 24; i < len(s); i++ {
			got, e := frame.Parse(made(turned(s, i)), f.C)
			wantNoFrame(t, "Parse with a wrong sum", got, e, api.ErrSum)
		}
		for i := range len(s) - 24 {
			// Those of the Kind and of the zeros are told by the form.
			got, e := frame.Parse(made(turned(s, i)), f.C)
			if e != api.ErrSum && (e != api.ErrForm || i >= 16) {
				t.Errorf("Parse of %+v, turned at %d: %d", f, i, e)
			}
			if !isEmpty(got) {
				t.Errorf("Parse of %+v, turned at %d: %+v", f, i, got)
			}
		}
	}
}

func TestParseAsksForBothSums(t *testing.T) {
	c := api.CState{Time: 9, Pos: 2, Mode: 1, Next: 3, Member: 15}
	s := stateDigits(c)
	for _, data := range [][]byte{nil, {7}, []byte("abcdefgh")} {
		head := "11" + "001" + "00" + s
		for i := range 24 {
			first := head + turned(sumOf(head), i) + dataDigits(data)
			got, e := frame.Parse(made(sealed(first, s)), c)
			wantNoFrame(t, "Parse with a wrong first sum", got, e, api.ErrSum)
			got, e = frame.Parse(made(turned(sealed(first, s), len(first)+i)), c)
			wantNoFrame(t, "Parse with two wrong sums", got, e, api.ErrSum)
			second := sealed(head, "") + dataDigits(data)
			got, e = frame.Parse(made(turned(sealed(second, s), len(second)+i)), c)
			wantNoFrame(t, "Parse with a wrong second sum", got, e, api.ErrSum)
		}
	}
}

func TestSumsGoOverWhatTheyShould(t *testing.T) {
	c := api.CState{Time: 9, Pos: 2, Mode: 1, Next: 3, Member: 15}
	s := stateDigits(c)
	front := "11" + "001" + "00" + s
	for what, b := range map[string]string{
		"FrCold with the state unsent":           sealed("00"+"011"+"00001001"+"000", s),
		"FrI with the state unsent":              sealed("10"+"001"+"0"+s, s),
		"FrN with nothing unsent":                nDigits(1, []byte{5}, ""),
		"FrX, its first sum with a state unsent": sealed(sealed(front, s)+"00000101", s),
		"FrX, its second sum with none":          sealed(sealed(front, "")+"00000101", ""),
		"FrX, its second sum over Data alone":    sealed(front, "") + "00000101" + sumOf(s+"00000101"),
	} {
		got, e := frame.Parse(made(b), c)
		wantNoFrame(t, "Parse of "+what, got, e, api.ErrSum)
	}
}

func TestSecondSumIsOfTheStateThatStandsThere(t *testing.T) {
	c := api.CState{Time: 9, Pos: 2, Mode: 1, Next: 3, Member: 15}
	s := stateDigits(c)
	for _, o := range others(c) {
		// The receiver's own state does not count, neither way.
		got, e := frame.Parse(made(xDigits(1, "00", s, []byte{5}, stateDigits(o))), o)
		wantNoFrame(t, "Parse, the second sum with the receiver's state", got, e, api.ErrSum)
		got, e = frame.Parse(made(xDigits(1, "00", s, []byte{5}, stateDigits(o))), c)
		wantNoFrame(t, "Parse, the second sum with another state", got, e, api.ErrSum)
		got, e = frame.Parse(made(xDigits(1, "00", s, []byte{5}, s)), o)
		wantFrame(t, "Parse, the second sum with the state that stands there", got, e, api.Frame{Kind: api.FrX, Req: 1, C: c, Data: []byte{5}})
	}
}

func TestParseRefusesAStateThatStandsThere(t *testing.T) {
	for next := 5; next <= 7; next++ {
		for _, c := range []api.CState{{Next: next}, {Time: 255, Pos: 7, Mode: 3, Next: next, Member: 255}, {Time: 1, Pos: 2, Next: next, Member: 5}} {
			s := stateDigits(c)
			for what, b := range map[string]string{
				"FrI":            iDigits(1, "0", s),
				"FrX":            xDigits(1, "00", s, nil, s),
				"FrX with bytes": xDigits(1, "00", s, []byte{1, 2}, s),
			} {
				got, e := frame.Parse(made(b), api.CState{})
				wantNoFrame(t, "Parse of "+what+" with Next "+strconv.Itoa(next), got, e, api.ErrForm)
				// A sum that is wrong is named ahead of it.
				got, e = frame.Parse(made(turned(b, len(b)-1)), api.CState{})
				wantNoFrame(t, "Parse of "+what+" with Next "+strconv.Itoa(next)+" and a wrong sum", got, e, api.ErrSum)
			}
			got, e := frame.Parse(made(xDigits(1, "00", s, nil, stateDigits(api.CState{}))), api.CState{})
			wantNoFrame(t, "Parse of FrX, the second sum with a state that may be", got, e, api.ErrSum)
		}
	}
}

func TestParseRefusesAReq(t *testing.T) {
	c := api.CState{Time: 9, Pos: 2, Mode: 1, Next: 3, Member: 15}
	s := stateDigits(c)
	for req := range 8 {
		for kind, b := range map[int]string{
			api.FrN: nDigits(req, []byte{5}, s),
			api.FrI: iDigits(req, "0", s),
			api.FrX: xDigits(req, "00", s, []byte{5}, s),
		} {
			got, e := frame.Parse(made(b), c)
			bad, worse := frame.Parse(made(turned(b, len(b)-1)), c)
			wantNoFrame(t, "Parse with a wrong sum", bad, worse, api.ErrSum)
			if req > 4 {
				wantNoFrame(t, "Parse with Req "+strconv.Itoa(req), got, e, api.ErrForm)
				continue
			}
			want := api.Frame{Kind: kind, Req: req, C: c}
			if mayHaveData(kind) {
				want.Data = []byte{5}
			}
			wantFrame(t, "Parse with Req "+strconv.Itoa(req), got, e, want)
		}
	}
}

func TestParseNamesTheStateAheadOfTheForm(t *testing.T) {
	for _, n := range []int{0, 1, 2, 31, 40, 4096} {
		for _, fill := range []string{"0", "1"} {
			got, e := frame.Parse(made(strings.Repeat(fill, n)), api.CState{Pos: 9})
			wantNoFrame(t, "Parse", got, e, api.ErrState)
		}
	}
}

// P5.3: Good, Explicit

func TestGoodWithItsOwnState(t *testing.T) {
	for _, f := range frames() {
		got, is := frame.Good(made(written(f)), f.C)
		wantTold(t, "Good", got, is, f, f.Kind != api.FrCold)
	}
}

func TestGoodWithAnotherState(t *testing.T) {
	for _, f := range some() {
		for _, c := range append(others(f.C), noStates()...) {
			got, is := frame.Good(made(written(f)), c)
			wantTold(t, "Good with another state", got, is, f, false)
		}
	}
}

func TestExplicit(t *testing.T) {
	for _, f := range frames() {
		got, is := frame.Explicit(made(written(f)))
		wantTold(t, "Explicit", got, is, f, f.Kind != api.FrN)
	}
}

func TestExplicitIsNoFrNOfZeros(t *testing.T) {
	b := made(written(api.Frame{Kind: api.FrN, Req: 1, Data: []byte{3}}))
	if _, e := frame.Parse(b, api.CState{}); e != api.OK {
		t.Errorf("Parse: %d", e)
	}
	got, is := frame.Explicit(b)
	wantTold(t, "Explicit", got, is, api.Frame{}, false)
}

func TestGoodAndExplicitOfWhatIsNoFrame(t *testing.T) {
	c := api.CState{Time: 9, Pos: 2, Mode: 1, Next: 3, Member: 15}
	s, wrong := stateDigits(c), stateDigits(api.CState{Next: 5})
	l := append(noBits(), api.Bits{}, made("0"), made("10"), made(strings.Repeat("0", 54)),
		made(coldDigits(3, 7, "001")), made(iDigits(1, "1", s)), made(iDigits(5, "0", s)), made(iDigits(1, "0", wrong)),
		made(xDigits(1, "01", s, nil, s)), made(xDigits(7, "00", s, nil, s)), made(xDigits(1, "00", wrong, nil, wrong)), made(nDigits(6, nil, s)))
	for _, f := range some() {
		l = append(l, made(turned(written(f), len(written(f))-1)), made(turned(written(f), 4)))
	}
	for _, b := range l {
		got, is := frame.Good(b, c)
		wantTold(t, "Good", got, is, api.Frame{}, false)
		got, is = frame.Good(b, api.CState{Pos: 8})
		wantTold(t, "Good with a state that may not be", got, is, api.Frame{}, false)
		got, is = frame.Explicit(b)
		wantTold(t, "Explicit", got, is, api.Frame{}, false)
	}
}

// P5.3: Same

func TestSame(t *testing.T) {
	// Frames that may not be are held against each other, too.
	base := []api.Frame{
		{}, {Kind: api.FrN, Req: 2, C: api.CState{Time: 1, Pos: 2, Mode: 3, Next: 4, Member: 5}, From: 6, Data: []byte{1, 2, 3}},
		{Kind: math.MinInt, Req: -1, C: api.CState{Time: -1, Pos: math.MaxInt, Mode: 99, Next: -5, Member: math.MinInt}, From: -3, Data: make([]byte, 99)},
	}
	for _, a := range base {
		b := a
		b.Data = slices.Clone(a.Data)
		if !frame.Same(a, b) || !frame.Same(b, a) || !frame.Same(a, a) {
			t.Errorf("Same of %+v and itself", a)
		}
		changes := map[string]func(*api.Frame){
			"Kind":   func(f *api.Frame) { f.Kind++ },
			"Req":    func(f *api.Frame) { f.Req++ },
			"Time":   func(f *api.Frame) { f.C.Time++ },
			"Pos":    func(f *api.Frame) { f.C.Pos-- },
			"Mode":   func(f *api.Frame) { f.C.Mode++ },
			"Next":   func(f *api.Frame) { f.C.Next++ },
			"Member": func(f *api.Frame) { f.C.Member++ },
			"From":   func(f *api.Frame) { f.From++ },
			"longer": func(f *api.Frame) { f.Data = append(slices.Clone(f.Data), 0) },
		}
		if len(a.Data) > 0 {
			changes["shorter"] = func(f *api.Frame) { f.Data = f.Data[:len(f.Data)-1] }
			changes["none"] = func(f *api.Frame) { f.Data = nil }
		}
		for i := range a.Data {
			changes["byte "+strconv.Itoa(i)] = func(f *api.Frame) {
				f.Data = slices.Clone(f.Data)
				f.Data[i] ^= 0x80
			}
		}
		for what, change := range changes {
			b := a
			change(&b)
			if frame.Same(a, b) || frame.Same(b, a) {
				t.Errorf("Same of %+v and another %s", a, what)
			}
		}
	}
}

func TestSameOfNoData(t *testing.T) {
	for _, kind := range append(kinds, 0) {
		l := []api.Frame{{Kind: kind}, {Kind: kind, Data: []byte{}}, {Kind: kind, Data: make([]byte, 0, 5)}}
		for _, a := range l {
			for _, b := range l {
				if !frame.Same(a, b) {
					t.Errorf("Same of %+v and %+v", a, b)
				}
			}
		}
	}
}

// P5.4

func TestThereAndBack(t *testing.T) {
	for _, f := range frames() {
		b, _ := frame.Encode(f)
		got, e := frame.Parse(b, f.C)
		wantFrame(t, "Parse of Encode", got, e, f)
		again, e := frame.Encode(got)
		wantBits(t, "Encode of Parse", again, e, textOf(b))
	}
}

func TestBackAndThere(t *testing.T) {
	// Heads of all kinds with sums that are right: each is refused, or comes back.
	r := chance(11)
	taken := 0
	for range 4000 {
		c := r.state()
		raw := digits(r.below(1<<24), 24)
		data := r.data(r.below(9))
		for _, s := range []string{
			coldDigits(r.below(8), r.below(256), "000"),
			nDigits(r.below(8), data, stateDigits(c)),
			iDigits(r.below(8), "0", raw),
			xDigits(r.below(8), "00", raw, data, raw),
		} {
			f, e := frame.Parse(made(s), c)
			if e != api.OK {
				wantNoFrame(t, "Parse", f, e, api.ErrForm)
				continue
			}
			taken++
			if frame.Check(f) != api.OK {
				t.Fatalf("Check of Parse: %+v", f)
			}
			b, e := frame.Encode(f)
			wantBits(t, "Encode of Parse", b, e, s)
		}
	}
	if taken < 8000 {
		t.Errorf("taken: %d", taken)
	}
}

// P5.5

func TestForThoseWhoAgreeAlone(t *testing.T) {
	r := chance(13)
	for range 3000 {
		c, o := r.state(), r.state()
		for _, f := range []api.Frame{
			{Kind: api.FrN, Req: r.below(5), C: c, Data: r.data(r.below(9))},
			{Kind: api.FrI, Req: r.below(5), C: c},
			{Kind: api.FrX, Req: r.below(5), C: c, Data: r.data(r.below(9))},
		} {
			b, _ := frame.Encode(f)
			got, is := frame.Good(b, c)
			wantTold(t, "Good with its own state", got, is, f, true)
			got, is = frame.Good(b, o)
			wantTold(t, "Good with a drawn state", got, is, f, o == c)
		}
	}
}

// P5.6

// wantBurstTold asks for an error of a frame's digits, those turned that pattern has from a place on.
func wantBurstTold(t *testing.T, f api.Frame, s string, at int, pattern uint32) {
	t.Helper()
	l := []byte(s)
	any := false
	for i := range min(24, len(s)-at) {
		if pattern>>i&1 == 1 {
			l[at+i] ^= 1
			any = true
		}
	}
	if !any {
		return
	}
	got, e := frame.Parse(made(string(l)), f.C)
	if e != api.ErrSum && e != api.ErrForm || !isEmpty(got) {
		t.Fatalf("Parse of %+v, turned from %d on by %x: %+v, %d", f, at, pattern, got, e)
	}
}

func TestABurstIsTold(t *testing.T) {
	r := chance(17)
	for _, f := range some() {
		s := written(f)
		for at := range len(s) {
			for i := range 24 {
				wantBurstTold(t, f, s, at, 1|1<<i)
				wantBurstTold(t, f, s, at, 1<<(i+1)-1)
			}
			// What SumPoly itself would turn, as it stands and turned round.
			wantBurstTold(t, f, s, at, 0x5d6dcb)
			wantBurstTold(t, f, s, at, 0xd3b6ba)
			for range 20 {
				wantBurstTold(t, f, s, at, 1|uint32(r.below(1<<24)))
			}
		}
	}
}

func TestEachShortBurstIsTold(t *testing.T) {
	for _, f := range []api.Frame{
		{Kind: api.FrCold, From: 5, C: api.CState{Time: 200}},
		{Kind: api.FrN, Req: 1, C: api.CState{Time: 3, Member: 15}},
		{Kind: api.FrI, Req: 1, C: api.CState{Time: 3, Member: 15}},
		{Kind: api.FrX, Req: 1, C: api.CState{Time: 3, Member: 15}},
	} {
		s := written(f)
		for at := range len(s) {
			for pattern := uint32(1); pattern < 1<<12; pattern += 2 {
				wantBurstTold(t, f, s, at, pattern)
			}
		}
	}
}

// R3

// roomy are bytes with room behind them in which a 0xee stands.
func roomy(l []byte) []byte {
	out := append(make([]byte, 0, len(l)+8), l...)
	for i := range out[len(l):cap(out)] {
		out[:cap(out)][len(l)+i] = 0xee
	}
	return out
}

func TestEncodeNeitherChangesNorShares(t *testing.T) {
	for _, kind := range []int{api.FrN, api.FrX} {
		f := api.Frame{Kind: kind, Req: 1, C: api.CState{Time: 3, Member: 15}, Data: roomy([]byte{1, 2, 3})}
		before := slices.Clone(f.Data[:cap(f.Data)])
		want := written(f)
		b, _ := frame.Encode(f)
		frame.Check(f)
		frame.Same(f, f)
		if !slices.Equal(f.Data[:cap(f.Data)], before) {
			t.Errorf("the Data of Kind %d have changed: %v", kind, f.Data)
		}
		f.Data[0] = 77
		if textOf(b) != want {
			t.Errorf("the bits of Kind %d share memory with the Data", kind)
		}
		f.Data[0] = 1
		for i := range b.B {
			b.B[i] = 0xff
		}
		_ = append(b.B, 9)
		if !slices.Equal(f.Data[:cap(f.Data)], before) {
			t.Errorf("the Data of Kind %d share memory with the bits", kind)
		}
		b, e := frame.Encode(f)
		wantBits(t, "Encode once more", b, e, want)
	}
}

func TestParseNeitherChangesNorShares(t *testing.T) {
	c := api.CState{Time: 3, Member: 15}
	calls := map[string]func(api.Bits) api.Frame{
		"Parse":    func(b api.Bits) api.Frame { f, _ := frame.Parse(b, c); return f },
		"Good":     func(b api.Bits) api.Frame { f, _ := frame.Good(b, c); return f },
		"Explicit": func(b api.Bits) api.Frame { f, _ := frame.Explicit(b); return f },
	}
	for _, kind := range []int{api.FrN, api.FrX} {
		want := api.Frame{Kind: kind, Req: 1, C: c, Data: []byte("abcdefgh")}
		for what, call := range calls {
			if what == "Explicit" && kind == api.FrN {
				continue
			}
			b := made(written(want))
			b.B = roomy(b.B)
			before := slices.Clone(b.B[:cap(b.B)])
			f, other := call(b), call(b)
			if b.N != len(written(want)) || !slices.Equal(b.B[:cap(b.B)], before) {
				t.Errorf("%s of Kind %d changed its bits", what, kind)
			}
			for i := range f.Data {
				f.Data[i] = 0xff
			}
			_ = append(f.Data, 9)
			if !slices.Equal(b.B[:cap(b.B)], before) || !like(other, want) {
				t.Errorf("%s of Kind %d shares its Data", what, kind)
			}
			for i := range b.B {
				b.B[i] = 0
			}
			if !like(other, want) {
				t.Errorf("%s of Kind %d shares memory with its bits", what, kind)
			}
		}
	}
}

// P1

func TestNothingPanics(t *testing.T) {
	numbers := []int{math.MinInt, math.MinInt32, -1, 0, 0, 0, 1, 2, 3, 4, 5, 7, 8, 9, 255, 256, math.MaxInt32, math.MaxInt}
	r := chance(19)
	pick := func() int { return numbers[r.below(len(numbers))] }
	for range 20000 {
		c := api.CState{Time: pick(), Pos: pick(), Mode: pick(), Next: pick(), Member: pick()}
		f := api.Frame{Kind: pick(), Req: pick(), C: c, From: pick(), Data: r.data(r.below(11))}
		b, e := frame.Encode(f)
		if e != frame.Check(f) || e != api.OK && !reflect.DeepEqual(b, api.Bits{}) {
			t.Fatalf("Encode(%+v): %v, %d", f, b, e)
		}
		frame.Size(pick(), pick())
		frame.Same(f, api.Frame{})
		x := api.Bits{N: r.below(170) - 4, B: r.data(r.below(22))}
		if r.below(2) == 0 {
			x.N = pick()
		}
		if got, e := frame.Parse(x, c); e == api.OK && frame.Check(got) != api.OK || e != api.OK && !isEmpty(got) {
			t.Fatalf("Parse(%v, %+v): %+v, %d", x, c, got, e)
		}
		frame.Good(x, c)
		frame.Explicit(x)
	}
}
