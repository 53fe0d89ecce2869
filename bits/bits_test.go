package bits_test

import (
	"math"
	"slices"
	"strconv"
	"strings"
	"testing"

	"metronome/api"
	"metronome/bits"
)

// made builds bits from digits without the package that is tested.
func made(digits string) api.Bits {
	b := api.Bits{N: len(digits), B: make([]byte, (len(digits)+7)/8)}
	for i, d := range []byte(digits) {
		if d == '1' {
			b.B[i/8] |= 128 >> (i % 8)
		}
	}
	return b
}

// row is n digits by a fixed rule, other ones for another seed.
func row(n int, seed uint32) string {
	var s strings.Builder
	for range n {
		seed = seed*1664525 + 1013904223
		s.WriteByte('0' + byte(seed>>31))
	}
	return s.String()
}

// digits is a number in width digits, the highest first.
func digits(v uint64, width int) string {
	if width == 0 {
		return ""
	}
	s := strconv.FormatUint(v, 2)
	return strings.Repeat("0", width-len(s)) + s
}

// rows are digits of many lengths: all up to 6, some around bytes, words and the limit.
func rows() []string {
	var l []string
	for n := range 7 {
		for v := range uint64(1) << n {
			l = append(l, digits(v, n))
		}
	}
	for i, n := range []int{7, 8, 9, 15, 16, 17, 31, 63, 64, 65, 100, 127, 128, 129, 4031, 4032, 4033, 4087, 4088, 4089, 4095, 4096} {
		l = append(l, row(n, uint32(i)), strings.Repeat("1", n), strings.Repeat("0", n))
	}
	return l
}

// refused are bits that Check refuses.
func refused() []api.Bits {
	most := make([]byte, 512)
	lastOne := make([]byte, 512)
	lastOne[511] = 1
	return []api.Bits{
		{N: -1},
		{N: -1, B: []byte{0}},
		{N: -7},
		{N: -8},
		{N: -8, B: []byte{0}},
		{N: math.MinInt},
		{N: math.MinInt, B: []byte{}},
		{N: math.MaxInt},
		{N: math.MaxInt, B: []byte{1}},
		{N: math.MaxInt - 7},
		{N: api.MaxBits + 1},
		{N: api.MaxBits + 1, B: most},
		{N: api.MaxBits + 1, B: make([]byte, 513)},
		{N: api.MaxBits + 8, B: make([]byte, 513)},
		{N: 1 << 16, B: make([]byte, 1<<13)},
		{N: 0, B: []byte{0}},
		{N: 0, B: []byte{255}},
		{N: 0, B: make([]byte, 513)},
		{N: 1},
		{N: 1, B: []byte{}},
		{N: 1, B: []byte{0, 0}},
		{N: 7, B: []byte{0, 0}},
		{N: 8},
		{N: 8, B: []byte{0, 0}},
		{N: 9, B: []byte{0}},
		{N: 9, B: []byte{0, 0, 0}},
		{N: api.MaxBits, B: most[:511]},
		{N: api.MaxBits, B: make([]byte, 513)},
		{N: api.MaxBits},
		{N: 1, B: []byte{0x40}},
		{N: 1, B: []byte{0x01}},
		{N: 3, B: []byte{0xff}},
		{N: 3, B: []byte{0x10}},
		{N: 7, B: []byte{0x01}},
		{N: 9, B: []byte{0xff, 0x40}},
		{N: 9, B: []byte{0x00, 0x01}},
		{N: api.MaxBits - 1, B: lastOne},
	}
}

// empties are no bits, in the ways in which there may be none.
func empties() []api.Bits {
	return []api.Bits{{}, {N: 0, B: []byte{}}, {N: 0, B: make([]byte, 0, 9)}}
}

// want holds an answer with its error against digits.
func want(t *testing.T, what string, got api.Bits, e api.Errno, digits string) {
	t.Helper()
	if e != api.OK || !equal(got, made(digits)) {
		t.Errorf("%s: got %d bits %x, error %d; want %d bits %x", what, got.N, got.B, e, len(digits), made(digits).B)
	}
}

// wantError holds an answer against an error beside which all else is zero.
func wantError(t *testing.T, what string, got api.Bits, e, wanted api.Errno) {
	t.Helper()
	if e != wanted || got.N != 0 || len(got.B) != 0 {
		t.Errorf("%s: got %d bits %x, error %d; want error %d and nothing beside it", what, got.N, got.B, e, wanted)
	}
}

func equal(a, b api.Bits) bool { return a.N == b.N && slices.Equal(a.B, b.B) }

// P1.1

func TestCheckTakes(t *testing.T) {
	for _, b := range empties() {
		if e := bits.Check(b); e != api.OK {
			t.Errorf("no bits, bytes %v: %d", b.B, e)
		}
	}
	for _, s := range rows() {
		if e := bits.Check(made(s)); e != api.OK {
			t.Errorf("%d bits: %d", len(s), e)
		}
	}
}

func TestCheckRefuses(t *testing.T) {
	for i, b := range refused() {
		if e := bits.Check(b); e != api.ErrBits {
			t.Errorf("bits %d, N %d: %d", i, b.N, e)
		}
	}
}

func TestCheckSeesEachBitBehindTheLast(t *testing.T) {
	for n := range 17 {
		for i := range (n + 7) / 8 * 8 {
			b := made(strings.Repeat("0", n))
			b.B[i/8] |= 128 >> (i % 8)
			if e := bits.Check(b); (e == api.OK) != (i < n) || e != api.OK && e != api.ErrBits {
				t.Errorf("%d bits, bit %d is 1: %d", n, i, e)
			}
		}
	}
}

func TestOf(t *testing.T) {
	b, e := bits.Of()
	want(t, "Of of nothing", b, e, "")
	b, e = bits.Of([]bool{}...)
	want(t, "Of of an empty list", b, e, "")
	b, e = bits.Of(true)
	want(t, "Of(true)", b, e, "1")
	b, e = bits.Of(true, false, true, true, false, false, true, false, false, true)
	want(t, "Of", b, e, "1011001001")
	for _, s := range rows() {
		b, e = bits.Of(truths(s)...)
		want(t, "Of", b, e, s)
	}
	for _, n := range []int{api.MaxBits + 1, api.MaxBits + 8, 1 << 16} {
		b, e = bits.Of(make([]bool, n)...)
		wantError(t, "Of of too many", b, e, api.ErrLong)
	}
}

func truths(digits string) []bool {
	l := make([]bool, len(digits))
	for i := range l {
		l[i] = digits[i] == '1'
	}
	return l
}

func TestRefusedBits(t *testing.T) {
	good := made("101")
	for _, bad := range refused() {
		b, e := bits.Put(bad, 1, 1)
		wantError(t, "Put", b, e, api.ErrBits)
		v, e := bits.Get(bad, 0, 0)
		if v != 0 || e != api.ErrBits {
			t.Errorf("Get: %d, error %d", v, e)
		}
		b, e = bits.Slice(bad, 0, 0)
		wantError(t, "Slice", b, e, api.ErrBits)
		for _, l := range [][]api.Bits{{bad}, {bad, good}, {good, bad}, {good, bad, bad, good}} {
			b, e = bits.Join(l...)
			wantError(t, "Join", b, e, api.ErrBits)
		}
		b, e = bits.Flip(bad)
		wantError(t, "Flip", b, e, api.ErrBits)
		if n := bits.Ones(bad); n != 0 {
			t.Errorf("Ones: %d", n)
		}
		for i := range bits.All(bad) {
			t.Errorf("All tells place %d", i)
		}
		if s := bits.Text(bad); s != "" {
			t.Errorf("Text: %q", s)
		}
	}
}

// P1.2

func TestPutExample(t *testing.T) {
	b, e := bits.Put(api.Bits{}, 5, 4)
	want(t, "Put(5, 4)", b, e, "0101")
	b, e = bits.Put(b, 1, 1)
	want(t, "Put(1, 1)", b, e, "01011")
	if v, e := bits.Get(b, 1, 3); v != 5 || e != api.OK {
		t.Errorf("Get(1, 3): %d, error %d", v, e)
	}
}

// numbers are numbers for a width: its edges, and some between.
func numbers(width int) []uint64 {
	if width == 0 {
		return []uint64{0}
	}
	most := uint64(math.MaxUint64) >> (64 - width)
	return []uint64{0, 1, most, most - 1, most >> 1, most/2 + 1, 0xdeadbeefcafe1234 & most, 0xaaaaaaaaaaaaaaaa & most}
}

func TestPutAllWidths(t *testing.T) {
	for _, s := range []string{"", "1", "0", "1011001", "10110010", "011100111", row(61, 7), row(api.MaxBits-64, 8)} {
		for width := range 65 {
			for _, v := range numbers(width) {
				b, e := bits.Put(made(s), v, width)
				want(t, "Put of width "+strconv.Itoa(width), b, e, s+digits(v, width))
			}
		}
	}
	for _, none := range empties() {
		b, e := bits.Put(none, 0, 0)
		want(t, "Put of nothing behind nothing", b, e, "")
		b, e = bits.Put(none, math.MaxUint64, 64)
		want(t, "Put of the greatest number", b, e, strings.Repeat("1", 64))
	}
}

func TestPutUpToTheLimit(t *testing.T) {
	for _, width := range []int{1, 7, 8, 9, 63, 64} {
		s := row(api.MaxBits-width, uint32(width))
		b, e := bits.Put(made(s), 1, width)
		want(t, "Put up to the limit", b, e, s+digits(1, width))
		b, e = bits.Put(made(s+"1"), 1, width)
		wantError(t, "Put beyond the limit", b, e, api.ErrLong)
	}
	full := made(strings.Repeat("1", api.MaxBits))
	b, e := bits.Put(full, 0, 0)
	want(t, "Put of nothing at the limit", b, e, strings.Repeat("1", api.MaxBits))
	for width := 1; width <= 64; width++ {
		b, e := bits.Put(full, 1, width)
		wantError(t, "Put behind as many as may be", b, e, api.ErrLong)
	}
}

// wrongWidths are widths that may not be.
var wrongWidths = []int{-1, -2, -64, math.MinInt, math.MinInt + 1, 65, 66, 128, 256, 1 << 32, math.MaxInt, math.MaxInt - 1}

func TestPutRefuses(t *testing.T) {
	for _, s := range []string{"", "101", row(api.MaxBits, 3)} {
		for _, width := range wrongWidths {
			for _, v := range []uint64{0, 1, math.MaxUint64} {
				b, e := bits.Put(made(s), v, width)
				wantError(t, "Put of width "+strconv.Itoa(width), b, e, api.ErrArg)
			}
		}
		for width := range 64 {
			for _, v := range []uint64{1 << width, 1<<width + 1, 1 << 63, math.MaxUint64} {
				if v>>width == 0 {
					continue
				}
				b, e := bits.Put(made(s), v, width)
				wantError(t, "Put of "+strconv.FormatUint(v, 10)+" in "+strconv.Itoa(width), b, e, api.ErrArg)
			}
		}
	}
}

func TestGet(t *testing.T) {
	for _, s := range []string{"", "1", "10110", "10110011", "101100111", row(130, 5), strings.Repeat("1", 129)} {
		for at := range len(s) + 1 {
			for width := 0; width <= 64 && at+width <= len(s); width++ {
				wanted := uint64(0)
				if width > 0 {
					wanted, _ = strconv.ParseUint(s[at:at+width], 2, 64)
				}
				if v, e := bits.Get(made(s), at, width); v != wanted || e != api.OK {
					t.Errorf("Get of %d bits, %d, %d: %d, error %d; want %d", len(s), at, width, v, e, wanted)
				}
			}
		}
	}
	full := made(strings.Repeat("1", api.MaxBits))
	if v, e := bits.Get(full, api.MaxBits-64, 64); v != math.MaxUint64 || e != api.OK {
		t.Errorf("Get of the last bits: %d, error %d", v, e)
	}
	for _, none := range empties() {
		if v, e := bits.Get(none, 0, 0); v != 0 || e != api.OK {
			t.Errorf("Get of nothing: %d, error %d", v, e)
		}
	}
}

func TestGetRefuses(t *testing.T) {
	for _, s := range []string{"", "1", "11111", row(64, 1), row(65, 2), row(api.MaxBits, 3)} {
		n := len(s)
		type pair struct{ at, width int }
		var l []pair
		for _, width := range wrongWidths {
			l = append(l, pair{0, width}, pair{n, width}, pair{1, width}, pair{-1, width}, pair{math.MaxInt, width}, pair{math.MinInt, width})
		}
		for _, at := range []int{-1, -64, math.MinInt, math.MinInt + 64, n + 1, math.MaxInt, math.MaxInt - 63, math.MaxInt - 64} {
			l = append(l, pair{at, 0}, pair{at, 1}, pair{at, 63}, pair{at, 64})
		}
		for width := 1; width <= 64; width++ {
			l = append(l, pair{n - width + 1, width}, pair{n, width})
		}
		for _, p := range l {
			if v, e := bits.Get(made(s), p.at, p.width); v != 0 || e != api.ErrArg {
				t.Errorf("Get of %d bits, %d, %d: %d, error %d", n, p.at, p.width, v, e)
			}
		}
	}
}

func TestSlice(t *testing.T) {
	for _, s := range []string{"", "1", "0", "1011001", "10110011", row(40, 9), strings.Repeat("1", 33)} {
		for from := range len(s) + 1 {
			for to := from; to <= len(s); to++ {
				b, e := bits.Slice(made(s), from, to)
				want(t, "Slice", b, e, s[from:to])
			}
		}
	}
	s := row(api.MaxBits, 4)
	for _, p := range [][2]int{{0, 0}, {0, 1}, {0, api.MaxBits}, {api.MaxBits, api.MaxBits}, {api.MaxBits - 1, api.MaxBits}, {1, api.MaxBits - 1}, {2000, 3001}} {
		b, e := bits.Slice(made(s), p[0], p[1])
		want(t, "Slice", b, e, s[p[0]:p[1]])
	}
	for _, none := range empties() {
		b, e := bits.Slice(none, 0, 0)
		want(t, "Slice of nothing", b, e, "")
	}
}

func TestSliceRefuses(t *testing.T) {
	for _, s := range []string{"", "1", "1011001", row(api.MaxBits, 4)} {
		n := len(s)
		for _, p := range [][2]int{
			{-1, 0}, {-1, n}, {-1, -1}, {0, -1}, {1, 0}, {n, n - 1}, {n + 1, n}, {0, n + 1}, {n, n + 1}, {n + 1, n + 1},
			{math.MinInt, math.MaxInt}, {math.MaxInt, math.MinInt}, {math.MaxInt, math.MaxInt}, {math.MinInt, math.MinInt},
			{0, math.MaxInt}, {0, math.MinInt}, {math.MinInt, 0}, {math.MaxInt, 0}, {math.MinInt, n},
		} {
			b, e := bits.Slice(made(s), p[0], p[1])
			wantError(t, "Slice of "+strconv.Itoa(n)+" bits", b, e, api.ErrArg)
		}
	}
}

func TestJoin(t *testing.T) {
	b, e := bits.Join()
	want(t, "Join of none", b, e, "")
	b, e = bits.Join([]api.Bits{}...)
	want(t, "Join of an empty list", b, e, "")
	b, e = bits.Join(empties()...)
	want(t, "Join of empty ones", b, e, "")
	b, e = bits.Join(make([]api.Bits, 10000)...)
	want(t, "Join of many empty ones", b, e, "")
	for _, l := range [][]string{
		{"1"}, {"101", ""}, {"", "101"}, {"1", "0", "1"}, {"1011001", "10", "111111111"}, {"10110011", "1"},
		{row(api.MaxBits, 1)}, {row(api.MaxBits-1, 2), "1"}, {"1", row(api.MaxBits-1, 3)}, {row(2048, 4), "", row(2048, 5), ""},
	} {
		b, e := bits.Join(madeAll(l)...)
		want(t, "Join", b, e, strings.Join(l, ""))
	}
}

func madeAll(l []string) []api.Bits {
	out := make([]api.Bits, len(l))
	for i, s := range l {
		out[i] = made(s)
	}
	return out
}

func TestJoinRefuses(t *testing.T) {
	full := strings.Repeat("1", api.MaxBits)
	for _, l := range [][]string{{full, "1"}, {"1", full}, {"", full, "", "0"}, {full, full}, {row(2048, 1), row(2048, 2), "1"}} {
		b, e := bits.Join(madeAll(l)...)
		wantError(t, "Join of too many", b, e, api.ErrLong)
	}
	b, e := bits.Join(slices.Repeat([]api.Bits{made(full)}, 600)...)
	wantError(t, "Join of far too many", b, e, api.ErrLong)
}

func TestFlip(t *testing.T) {
	b, e := bits.Flip(made("100111"), 0, 5, 0)
	want(t, "Flip(0, 5, 0)", b, e, "100110")
	for _, none := range empties() {
		b, e = bits.Flip(none)
		want(t, "Flip of nothing", b, e, "")
	}
	for _, s := range rows() {
		b, e = bits.Flip(made(s))
		want(t, "Flip of no place", b, e, s)
		b, e = bits.Flip(made(s), []int{}...)
		want(t, "Flip of an empty list", b, e, s)
		for _, at := range []int{0, 1, 7, 8, len(s) / 2, len(s) - 1} {
			if at < 0 || at >= len(s) {
				continue
			}
			for often := 1; often <= 4; often++ {
				b, e = bits.Flip(made(s), slices.Repeat([]int{at}, often)...)
				want(t, "Flip", b, e, turned(s, at, often))
			}
		}
	}
}

func turned(s string, at, often int) string {
	l := []byte(s)
	l[at] ^= byte(often % 2)
	return string(l)
}

func TestFlipRefuses(t *testing.T) {
	for _, s := range []string{"", "1", "1011001", "10110011", row(api.MaxBits, 4)} {
		n := len(s)
		for _, at := range []int{-1, -8, math.MinInt, n, n + 1, n + 8, api.MaxBits, math.MaxInt} {
			b, e := bits.Flip(made(s), at)
			wantError(t, "Flip", b, e, api.ErrArg)
			b, e = bits.Flip(made(s), at, at)
			wantError(t, "Flip", b, e, api.ErrArg)
			if n > 0 {
				b, e = bits.Flip(made(s), 0, n-1, at)
				wantError(t, "Flip", b, e, api.ErrArg)
				b, e = bits.Flip(made(s), at, 0)
				wantError(t, "Flip", b, e, api.ErrArg)
			}
		}
	}
}

// P1.3

func TestOnesAllText(t *testing.T) {
	for _, s := range rows() {
		b := made(s)
		if n := bits.Ones(b); n != strings.Count(s, "1") {
			t.Errorf("Ones of %d bits: %d", len(s), n)
		}
		if got := bits.Text(b); got != s {
			t.Errorf("Text of %d bits: %q", len(s), got)
		}
		next := 0
		for i, is := range bits.All(b) {
			if i != next || is != (s[i] == '1') {
				t.Fatalf("All of %d bits: place %d is %v, awaited place %d", len(s), i, is, next)
			}
			next++
		}
		if next != len(s) {
			t.Errorf("All of %d bits told %d", len(s), next)
		}
	}
	for _, none := range empties() {
		if bits.Ones(none) != 0 || bits.Text(none) != "" {
			t.Error("no bits have something")
		}
		for range bits.All(none) {
			t.Error("All of no bits tells something")
		}
	}
}

func TestAllStopsAndBeginsAgain(t *testing.T) {
	all := bits.All(made("1011001110"))
	for range 2 {
		n := 0
		for i := range all {
			n++
			if i == 3 {
				break
			}
		}
		if n != 4 {
			t.Errorf("stopped behind %d", n)
		}
	}
	var got []bool
	for _, is := range all {
		got = append(got, is)
	}
	if !slices.Equal(got, truths("1011001110")) {
		t.Errorf("behind a stop it tells %v", got)
	}
}

func TestParse(t *testing.T) {
	for _, s := range rows() {
		b, e := bits.Parse(s)
		want(t, "Parse", b, e, s)
	}
}

func TestParseRefuses(t *testing.T) {
	for c := range 256 {
		if c == '0' || c == '1' {
			continue
		}
		bad := string([]byte{byte(c)})
		for _, s := range []string{bad, "0" + bad, bad + "1", "01" + bad + "10", row(api.MaxBits-1, 6) + bad} {
			b, e := bits.Parse(s)
			wantError(t, "Parse with byte "+strconv.Itoa(c), b, e, api.ErrText)
		}
	}
	for _, s := range []string{" 1", "1 ", "1\n", "0b1", "-1", "1_0", "\u0660", "\uff11", "\xff\xfe"} {
		b, e := bits.Parse(s)
		wantError(t, "Parse of "+strconv.Quote(s), b, e, api.ErrText)
	}
	// A length is one of bytes: two bytes a letter are too many.
	for _, s := range []string{row(api.MaxBits+1, 1), row(1<<16, 2), strings.Repeat("x", api.MaxBits+1), strings.Repeat("\u00e9", api.MaxBits/2) + "1"} {
		b, e := bits.Parse(s)
		wantError(t, "Parse of too much", b, e, api.ErrLong)
	}
}

func TestSame(t *testing.T) {
	l := []string{"", "0", "1", "00", "01", "10", "11", "10000000", "100000000", "1000000000", "0000000001", row(64, 1), row(api.MaxBits, 1), row(api.MaxBits, 2)}
	for i, x := range l {
		for j, y := range l {
			if got := bits.Same(made(x), made(y)); got != (i == j) {
				t.Errorf("Same of %d and %d: %v", i, j, got)
			}
		}
	}
	for _, a := range empties() {
		for _, b := range empties() {
			if !bits.Same(a, b) {
				t.Errorf("Same of empty %v and %v", a, b)
			}
		}
	}
}

func TestSameOfRefusedBits(t *testing.T) {
	for i, a := range refused() {
		for j, b := range refused() {
			wanted := a.N == b.N && slices.Equal(a.B, b.B)
			if i == j && !wanted {
				t.Fatal("bits are not their own")
			}
			if got := bits.Same(a, b); got != wanted {
				t.Errorf("Same of refused %d and %d: %v", i, j, got)
			}
		}
		if bits.Same(a, api.Bits{}) || bits.Same(api.Bits{}, a) {
			t.Errorf("refused %d and nothing are the same", i)
		}
	}
	if !bits.Same(api.Bits{N: 5}, api.Bits{N: 5, B: []byte{}}) {
		t.Error("nil and empty bytes differ")
	}
	if bits.Same(api.Bits{N: 3, B: []byte{0xa0}}, api.Bits{N: 3, B: []byte{0xa1}}) {
		t.Error("a bit behind the last one does not count")
	}
}

// Several errors at once

func TestTheErrorNamedFirst(t *testing.T) {
	full := made(strings.Repeat("1", api.MaxBits))
	for _, bad := range refused() {
		b, e := bits.Put(bad, 9, 65)
		wantError(t, "Put: ErrBits ahead of ErrArg", b, e, api.ErrBits)
		b, e = bits.Put(bad, 2, 1)
		wantError(t, "Put: ErrBits ahead of ErrArg", b, e, api.ErrBits)
		b, e = bits.Put(bad, 1, -1)
		wantError(t, "Put: ErrBits ahead of ErrArg", b, e, api.ErrBits)
		if v, e := bits.Get(bad, -1, 65); v != 0 || e != api.ErrBits {
			t.Errorf("Get: ErrBits ahead of ErrArg: %d, error %d", v, e)
		}
		if v, e := bits.Get(bad, math.MaxInt, math.MaxInt); v != 0 || e != api.ErrBits {
			t.Errorf("Get: ErrBits ahead of ErrArg: %d, error %d", v, e)
		}
		b, e = bits.Slice(bad, 2, 1)
		wantError(t, "Slice: ErrBits ahead of ErrArg", b, e, api.ErrBits)
		b, e = bits.Slice(bad, math.MinInt, math.MaxInt)
		wantError(t, "Slice: ErrBits ahead of ErrArg", b, e, api.ErrBits)
		b, e = bits.Flip(bad, -1, math.MaxInt)
		wantError(t, "Flip: ErrBits ahead of ErrArg", b, e, api.ErrBits)
		b, e = bits.Join(full, full, bad)
		wantError(t, "Join: ErrBits ahead of ErrLong", b, e, api.ErrBits)
		b, e = bits.Join(bad, full, full)
		wantError(t, "Join: ErrBits ahead of ErrLong", b, e, api.ErrBits)
	}
	b, e := bits.Put(full, 2, 1)
	wantError(t, "Put: ErrArg ahead of ErrLong", b, e, api.ErrArg)
	b, e = bits.Put(full, 0, 65)
	wantError(t, "Put: ErrArg ahead of ErrLong", b, e, api.ErrArg)
	b, e = bits.Put(full, 1, 0)
	wantError(t, "Put: ErrArg", b, e, api.ErrArg)
	b, e = bits.Parse(strings.Repeat("2", api.MaxBits+1))
	wantError(t, "Parse: ErrLong ahead of ErrText", b, e, api.ErrLong)
}

// P1.4

func TestGetOfPut(t *testing.T) {
	for _, s := range []string{"", "1", "0110100", row(64, 3), row(api.MaxBits-64, 4)} {
		for width := range 65 {
			for _, v := range numbers(width) {
				b, e := bits.Put(made(s), v, width)
				if e != api.OK {
					t.Fatalf("Put of width %d: error %d", width, e)
				}
				if got, e := bits.Get(b, len(s), width); got != v || e != api.OK {
					t.Errorf("Get of Put of %d in %d: %d, error %d", v, width, got, e)
				}
				ahead, e := bits.Slice(b, 0, len(s))
				want(t, "what stands ahead of what was Put", ahead, e, s)
			}
		}
	}
}

func TestSlicesOfJoin(t *testing.T) {
	parts := []string{"", "1", "1011001", row(64, 1), "", row(77, 2), row(2000, 3), "0"}
	b, e := bits.Join(madeAll(parts)...)
	if e != api.OK {
		t.Fatal(e)
	}
	at := 0
	for _, p := range parts {
		part, e := bits.Slice(b, at, at+len(p))
		want(t, "a Slice of a Join", part, e, p)
		at += len(p)
	}
}

func TestFlipTwice(t *testing.T) {
	for _, s := range rows() {
		var places []int
		for i := range len(s) {
			if i%3 != 1 {
				places = append(places, i)
			}
		}
		once, e := bits.Flip(made(s), places...)
		if e != api.OK || len(places) > 0 && bits.Same(once, made(s)) {
			t.Fatalf("Flip of %d bits changes nothing, error %d", len(s), e)
		}
		twice, e := bits.Flip(once, places...)
		want(t, "Flip twice", twice, e, s)
	}
}

func TestParseOfText(t *testing.T) {
	for _, s := range rows() {
		b, e := bits.Parse(bits.Text(made(s)))
		want(t, "Parse of Text", b, e, s)
	}
}

// P1.5

func TestWhatIsAnsweredMayBe(t *testing.T) {
	takes := func(what string, b api.Bits, e api.Errno) {
		t.Helper()
		if e == api.OK && bits.Check(b) != api.OK {
			t.Errorf("%s: %d bits %x may not be", what, b.N, b.B)
		}
	}
	for i, s := range rows() {
		n := len(s)
		b, e := bits.Of(truths(s)...)
		takes("Of", b, e)
		b, e = bits.Parse(s)
		takes("Parse", b, e)
		for _, width := range []int{0, 1, 5, 8, 63, 64} {
			for _, v := range numbers(width) {
				b, e = bits.Put(made(s), v, width)
				takes("Put", b, e)
			}
		}
		for _, p := range [][2]int{{0, n}, {0, n / 2}, {n / 2, n}, {min(n, 3), max(min(n, 3), n-2)}, {0, min(n, 1)}, {n, n}} {
			b, e = bits.Slice(made(s), p[0], p[1])
			takes("Slice", b, e)
		}
		b, e = bits.Join(made(s), made(row(i%19, uint32(i))), made("1"))
		takes("Join", b, e)
		b, e = bits.Flip(made(s), 0)
		takes("Flip", b, e)
		b, e = bits.Flip(made(s), n-1, 0, n-1, n/2)
		takes("Flip", b, e)
	}
}

// R3

// roomy are bits whose bytes have room behind them, all of it 1; and all of that memory.
func roomy(digits string) (api.Bits, []byte) {
	b := made(digits)
	whole := append(slices.Clone(b.B), 255, 255, 255, 255, 255, 255, 255, 255, 255)
	return api.Bits{N: b.N, B: whole[:len(b.B)]}, whole
}

// bitCalls are all calls that answer bits of bits.
func bitCalls(n int) map[string]func(api.Bits) (api.Bits, api.Errno) {
	return map[string]func(api.Bits) (api.Bits, api.Errno){
		"Put":            func(b api.Bits) (api.Bits, api.Errno) { return bits.Put(b, 255, 8) },
		"Put of 1 bit":   func(b api.Bits) (api.Bits, api.Errno) { return bits.Put(b, 1, 1) },
		"Put of nothing": func(b api.Bits) (api.Bits, api.Errno) { return bits.Put(b, 0, 0) },
		"Slice":          func(b api.Bits) (api.Bits, api.Errno) { return bits.Slice(b, 0, n) },
		"Slice of bytes": func(b api.Bits) (api.Bits, api.Errno) { return bits.Slice(b, 0, n/8*8) },
		"Slice behind":   func(b api.Bits) (api.Bits, api.Errno) { return bits.Slice(b, n/8*8, n) },
		"Join of one":    func(b api.Bits) (api.Bits, api.Errno) { return bits.Join(b) },
		"Join of two":    func(b api.Bits) (api.Bits, api.Errno) { return bits.Join(b, b) },
		"Join, none 1st": func(b api.Bits) (api.Bits, api.Errno) { return bits.Join(api.Bits{}, b, api.Bits{}) },
		"Flip":           func(b api.Bits) (api.Bits, api.Errno) { return bits.Flip(b, 0, n-1, 0) },
		"Flip of none":   func(b api.Bits) (api.Bits, api.Errno) { return bits.Flip(b) },
		"Flip, refused":  func(b api.Bits) (api.Bits, api.Errno) { return bits.Flip(b, 0, n) },
		"Put, refused":   func(b api.Bits) (api.Bits, api.Errno) { return bits.Put(b, 2, 1) },
	}
}

func TestAnswersHaveTheirOwnMemory(t *testing.T) {
	for _, s := range []string{"1", "1011001", "10110011", "101100110", row(64, 1), row(100, 2), strings.Repeat("1", 40)} {
		for name, call := range bitCalls(len(s)) {
			b, whole := roomy(s)
			was := slices.Clone(whole)
			first, e := call(b)
			second, _ := call(b)
			if !slices.Equal(whole, was) {
				t.Errorf("%s of %d bits changed what was handed in", name, len(s))
			}
			kept := slices.Clone(second.B)
			spoil(first.B[:cap(first.B)])
			if !slices.Equal(whole, was) || !slices.Equal(second.B, kept) {
				t.Errorf("%s of %d bits: its answer shares memory", name, len(s))
			}
			spoil(whole)
			if !slices.Equal(second.B, kept) {
				t.Errorf("%s of %d bits keeps what was handed in (error %d)", name, len(s), e)
			}
		}
	}
}

func spoil(l []byte) {
	for i := range l {
		l[i] ^= 0xff
	}
}

func TestListsHandedInStay(t *testing.T) {
	truth := truths(row(40, 1))
	wasTruth := slices.Clone(truth)
	places := []int{5, 0, 39, 5, 7}
	wasPlaces := slices.Clone(places)
	parts := madeAll([]string{"1", "", row(9, 1), row(16, 2)})
	a, _ := bits.Of(truth...)
	b, _ := bits.Flip(a, places...)
	c, _ := bits.Join(parts...)
	clear(a.B)
	clear(b.B)
	clear(c.B)
	if !slices.Equal(truth, wasTruth) || !slices.Equal(places, wasPlaces) {
		t.Error("a list that was handed in is another one")
	}
	if !slices.EqualFunc(parts, madeAll([]string{"1", "", row(9, 1), row(16, 2)}), equal) {
		t.Error("bits that were handed to Join are other ones")
	}
}

func TestReadersChangeNothing(t *testing.T) {
	for _, s := range []string{"", "1", "1011001", row(64, 1), row(100, 2)} {
		b, whole := roomy(s)
		was := slices.Clone(whole)
		bits.Check(b)
		bits.Ones(b)
		bits.Text(b)
		bits.Get(b, 0, min(len(s), 64))
		bits.Same(b, b)
		for range bits.All(b) {
			continue
		}
		if !slices.Equal(whole, was) {
			t.Errorf("a reader changed %d bits", len(s))
		}
	}
}

func TestAllTellsWhatWasThere(t *testing.T) {
	s := row(40, 3)
	b := made(s)
	all := bits.All(b)
	spoil(b.B)
	var got []bool
	for _, is := range all {
		got = append(got, is)
	}
	if !slices.Equal(got, truths(s)) {
		t.Error("All tells what came later")
	}
	b = made(s)
	got = nil
	for _, is := range bits.All(b) {
		clear(b.B)
		got = append(got, is)
	}
	if !slices.Equal(got, truths(s)) {
		t.Error("All tells what came while it went on")
	}
	bad := api.Bits{N: 3, B: []byte{0xff}}
	all = bits.All(bad)
	bad.B[0] = 0xe0
	for range all {
		t.Error("All tells bits that were refused when it was asked")
	}
	good := made("111")
	all = bits.All(good)
	good.B[0] = 0xff
	n := 0
	for range all {
		n++
	}
	if n != 3 {
		t.Errorf("All tells %d of 3 bits that were good when it was asked", n)
	}
}

// R6

func TestNilAndEmptyAreTheSame(t *testing.T) {
	for _, none := range empties() {
		b, e := bits.Join(none, made("10"), none)
		want(t, "Join", b, e, "10")
		b, e = bits.Put(none, 2, 2)
		want(t, "Put", b, e, "10")
		b, e = bits.Flip(none, 0)
		wantError(t, "Flip", b, e, api.ErrArg)
		b, e = bits.Flip(made("10"), nil...)
		want(t, "Flip", b, e, "10")
	}
	b, e := bits.Of(nil...)
	want(t, "Of", b, e, "")
	b, e = bits.Join(nil...)
	want(t, "Join", b, e, "")
}

// P1

// TestEveryCallAnswers goes through bits and numbers of all kinds together: a panic ends it.
func TestEveryCallAnswers(t *testing.T) {
	l := append(refused(), empties()...)
	for _, s := range []string{"0", "1", "1011001", "10110011", row(65, 1), row(api.MaxBits, 2)} {
		l = append(l, made(s))
	}
	numbers := []int{math.MinInt, math.MinInt + 1, -65, -64, -1, 0, 1, 7, 8, 63, 64, 65, api.MaxBits - 1, api.MaxBits, api.MaxBits + 1, math.MaxInt - 64, math.MaxInt - 1, math.MaxInt}
	for _, b := range l {
		for _, x := range numbers {
			bits.Put(b, uint64(x), x)
			bits.Flip(b, x)
			for _, y := range numbers {
				v, e := bits.Get(b, x, y)
				if e != api.OK && v != 0 {
					t.Errorf("Get beside error %d: %d", e, v)
				}
				for _, call := range []func() (api.Bits, api.Errno){
					func() (api.Bits, api.Errno) { return bits.Put(b, uint64(x), y) },
					func() (api.Bits, api.Errno) { return bits.Slice(b, x, y) },
					func() (api.Bits, api.Errno) { return bits.Flip(b, x, y) },
				} {
					if got, e := call(); e != api.OK && (got.N != 0 || len(got.B) != 0) {
						t.Errorf("beside error %d: %d bits", e, got.N)
					}
				}
			}
		}
	}
}
