package phasor_test

import (
	"math"
	"slices"
	"strconv"
	"strings"
	"testing"

	"metronome/api"
	"metronome/phasor"
)

// made builds bits from digits without the packages that are tested.
func made(digits string) api.Bits {
	b := api.Bits{N: len(digits), B: make([]byte, (len(digits)+7)/8)}
	for i, d := range []byte(digits) {
		if d == '1' {
			b.B[i/8] |= 128 >> (i % 8)
		}
	}
	return b
}

// chance is a row of numbers by a fixed rule, another one for another start.
type chance uint64

func (c *chance) below(n int) int {
	*c = *c*6364136223846793005 + 1442695040888963407
	return int(uint64(*c>>33) % uint64(n))
}

// row is n digits by a fixed rule, other ones for another seed.
func row(n int, seed uint64) string {
	c := chance(seed)
	var s strings.Builder
	for range n {
		s.WriteByte('0' + byte(c.below(2)))
	}
	return s.String()
}

// digits is a number in width digits, the highest first.
func digits(v, width int) string {
	s := strconv.FormatInt(int64(v), 2)
	return strings.Repeat("0", width-len(s)) + s
}

// rows are digits of many lengths: all up to 5, some around bytes and the limit, odd and even ones.
func rows() []string {
	l := []string{""}
	for n := 1; n <= 5; n++ {
		for v := range 1 << n {
			l = append(l, digits(v, n))
		}
	}
	for i, n := range []int{6, 7, 8, 9, 15, 16, 17, 63, 64, 65, 255, 256, 257, 1023, 1024, 4093, 4094, 4095} {
		l = append(l, row(n, uint64(i)), strings.Repeat("1", n), strings.Repeat("0", n))
	}
	return l
}

// refused are bits that bits.Check refuses.
func refused() []api.Bits {
	lastOne := make([]byte, 512)
	lastOne[511] = 1
	return []api.Bits{
		{N: -1},
		{N: -1, B: []byte{0}},
		{N: math.MinInt},
		{N: math.MaxInt},
		{N: math.MaxInt, B: []byte{1}},
		{N: api.MaxBits + 1, B: make([]byte, 513)},
		{N: 0, B: []byte{0}},
		{N: 1},
		{N: 1, B: []byte{0x40}},
		{N: 7, B: []byte{0x01}},
		{N: 8, B: []byte{0, 0}},
		{N: 9, B: []byte{0}},
		{N: api.MaxPay, B: lastOne},
		{N: api.MaxBits, B: make([]byte, 511)},
	}
}

// air are samples, written as numbers of the plane.
func air(l ...complex128) []api.Sample {
	var s []api.Sample
	for _, c := range l {
		s = append(s, api.Sample{I: int(real(c)), Q: int(imag(c))})
	}
	return s
}

// pre is the preamble as the chapter writes it.
func pre() []api.Sample {
	return air(1+1i, 1+1i, -1-1i, 1-1i, -1+1i, 1+1i, -1+1i, 1-1i)
}

// pair is the sample of two digits.
func pair(two string) api.Sample {
	switch two {
	case "00":
		return api.Sample{I: 1, Q: 1}
	case "01":
		return api.Sample{I: -1, Q: 1}
	case "11":
		return api.Sample{I: -1, Q: -1}
	case "10":
		return api.Sample{I: 1, Q: -1}
	}
	panic("no two digits: " + two)
}

// pairs are the samples of digits, each amp times; there is no odd one.
func pairs(s string, amp int) []api.Sample {
	var l []api.Sample
	for ; s != ""; s = s[2:] {
		l = append(l, scaled(pair(s[:2]), amp))
	}
	return l
}

func scaled(x api.Sample, amp int) api.Sample { return api.Sample{I: x.I * amp, Q: x.Q * amp} }

func scaledAll(s []api.Sample, amp int) []api.Sample {
	var l []api.Sample
	for _, x := range s {
		l = append(l, scaled(x, amp))
	}
	return l
}

// sent is what Encode should answer.
func sent(s string, amp int) []api.Sample {
	return slices.Concat(scaledAll(pre(), amp), pairs(digits(len(s), 12), amp), pairs(s+strings.Repeat("0", len(s)%2), amp))
}

// turned is a sample a quarter further, so many times.
func turned(x api.Sample, times int) api.Sample {
	for range times {
		x = api.Sample{I: -x.Q, Q: x.I}
	}
	return x
}

func turnedAll(s []api.Sample, times int) []api.Sample {
	var l []api.Sample
	for _, x := range s {
		l = append(l, turned(x, times))
	}
	return l
}

func zeros(n int) []api.Sample { return make([]api.Sample, n) }

// wrongSamples may not be: just beyond, and far beyond, in I and in Q.
func wrongSamples() []api.Sample {
	var l []api.Sample
	for _, n := range []int{api.MaxLevel + 1, -api.MaxLevel - 1, 1 << 20, 1 << 32, -1 << 32, 1 << 62, math.MaxInt, math.MinInt, math.MinInt + 1} {
		l = append(l, api.Sample{I: n}, api.Sample{Q: n}, api.Sample{I: n, Q: n}, api.Sample{I: api.MaxLevel, Q: n}, api.Sample{I: n, Q: -api.MaxLevel})
	}
	return l
}

// edgeSamples may just be.
func edgeSamples() []api.Sample {
	var l []api.Sample
	for _, i := range []int{-api.MaxLevel, -api.MaxLevel + 1, -1, 0, 1, api.MaxLevel - 1, api.MaxLevel} {
		for _, q := range []int{-api.MaxLevel, -1, 0, 1, api.MaxLevel} {
			l = append(l, api.Sample{I: i, Q: q})
		}
	}
	return l
}

// with is s with x at a place.
func with(s []api.Sample, at int, x api.Sample) []api.Sample {
	l := slices.Clone(s)
	l[at] = x
	return l
}

func wantSamples(t *testing.T, what string, got []api.Sample, e api.Errno, wanted []api.Sample) {
	t.Helper()
	if e != api.OK || !slices.Equal(got, wanted) {
		t.Errorf("%s: error %d, %d samples %v; want %d samples %v", what, e, len(got), short(got), len(wanted), short(wanted))
	}
}

func short(s []api.Sample) []api.Sample { return s[:min(len(s), 40)] }

func wantNoSamples(t *testing.T, what string, got []api.Sample, e, wanted api.Errno) {
	t.Helper()
	if e != wanted || len(got) != 0 {
		t.Errorf("%s: error %d, %d samples; want error %d and nothing beside it", what, e, len(got), wanted)
	}
}

func equal(a, b api.Bits) bool { return a.N == b.N && slices.Equal(a.B, b.B) }

func wantBits(t *testing.T, what string, got api.Bits, e api.Errno, digits string) {
	t.Helper()
	if e != api.OK || !equal(got, made(digits)) {
		t.Errorf("%s: error %d, %d bits %x; want %d bits %x", what, e, got.N, got.B, len(digits), made(digits).B)
	}
}

func wantNoBits(t *testing.T, what string, got api.Bits, e, wanted api.Errno) {
	t.Helper()
	if e != wanted || got.N != 0 || len(got.B) != 0 {
		t.Errorf("%s: error %d, %d bits %x; want error %d and nothing beside it", what, e, got.N, got.B, wanted)
	}
}

// P3.1

func TestPreamble(t *testing.T) {
	p := phasor.Preamble()
	wantSamples(t, "Preamble", p, api.OK, pre())
	for i := range p {
		p[i] = api.Sample{I: 7, Q: 7}
	}
	wantSamples(t, "Preamble behind a change of its answer", phasor.Preamble(), api.OK, pre())
	if product, strength, is := phasor.Match(pre(), 0); product != (api.Sample{I: 16}) || strength != 16 || !is {
		t.Errorf("Match behind a change of Preamble's answer: %v, %d, %v", product, strength, is)
	}
}

func TestAir(t *testing.T) {
	for n, wanted := range map[int]int{
		0: 14, 1: 15, 2: 15, 3: 16, 4: 16, 5: 17, 7: 18, 20: 24, 4093: 2061, 4094: 2061, 4095: 2062,
		-1: 0, -2: 0, -28: 0, math.MinInt: 0, 4096: 0, 4097: 0, 1 << 32: 0, math.MaxInt: 0, math.MaxInt - 1: 0,
	} {
		if got := phasor.Air(n); got != wanted {
			t.Errorf("Air(%d): %d; want %d", n, got, wanted)
		}
	}
}

func TestEncodeExample(t *testing.T) {
	s, e := phasor.Encode(made("01"), 5)
	if e != api.OK || len(s) != 15 || s[14] != (api.Sample{I: -5, Q: 5}) {
		t.Fatalf("Encode of 01 with 5: error %d, %v", e, s)
	}
	s, e = phasor.Turn(s, 1)
	if e != api.OK || len(s) != 15 || s[14] != (api.Sample{I: -5, Q: -5}) {
		t.Errorf("turned once: error %d, %v", e, s)
	}
}

func TestEncodeByHand(t *testing.T) {
	s, e := phasor.Encode(made("11011"), 3)
	wantSamples(t, "Encode of 11011 with 3", s, e, air(
		3+3i, 3+3i, -3-3i, 3-3i, -3+3i, 3+3i, -3+3i, 3-3i,
		3+3i, 3+3i, 3+3i, 3+3i, -3+3i, -3+3i,
		-3-3i, -3+3i, 3-3i,
	))
	s, e = phasor.Encode(made(strings.Repeat("1", 4095)), 1)
	if e != api.OK || len(s) != 2062 || slices.Contains(s[8:2061], api.Sample{I: 1, Q: 1}) || s[8] != (api.Sample{I: -1, Q: -1}) || s[2061] != (api.Sample{I: 1, Q: -1}) {
		t.Errorf("Encode of 4095 ones: error %d, %d samples", e, len(s))
	}
}

func TestEncode(t *testing.T) {
	for _, digits := range rows() {
		for _, amp := range []int{1, 2, 100, api.MaxAmp - 1, api.MaxAmp} {
			s, e := phasor.Encode(made(digits), amp)
			wantSamples(t, "Encode of "+strconv.Itoa(len(digits))+" bits", s, e, sent(digits, amp))
			if len(s) != phasor.Air(len(digits)) {
				t.Errorf("Encode of %d bits: %d samples, and Air is %d", len(digits), len(s), phasor.Air(len(digits)))
			}
		}
	}
	for _, none := range []api.Bits{{}, {B: []byte{}}, {B: make([]byte, 0, 9)}} {
		s, e := phasor.Encode(none, 1)
		wantSamples(t, "Encode of nothing", s, e, sent("", 1))
	}
}

func TestEncodeRefuses(t *testing.T) {
	wrong := []int{0, -1, -5, math.MinInt, api.MaxAmp + 1, api.MaxLevel, 1 << 32, math.MaxInt}
	tooLong := made(row(api.MaxBits, 4))
	for _, bad := range refused() {
		for _, amp := range append([]int{1, api.MaxAmp}, wrong...) {
			s, e := phasor.Encode(bad, amp)
			wantNoSamples(t, "Encode of refused bits", s, e, api.ErrBits)
		}
	}
	for _, amp := range wrong {
		for _, b := range []api.Bits{{}, made("01"), made(row(api.MaxPay, 5)), tooLong} {
			s, e := phasor.Encode(b, amp)
			wantNoSamples(t, "Encode with "+strconv.Itoa(amp), s, e, api.ErrAmp)
		}
	}
	for _, amp := range []int{1, 5, api.MaxAmp} {
		s, e := phasor.Encode(tooLong, amp)
		wantNoSamples(t, "Encode of 4096 bits", s, e, api.ErrLong)
	}
}

// P3.2

// quarters are ways to turn, and how many quarters from 0 to 3 they are.
func quarters() map[int]int {
	return map[int]int{
		0: 0, 1: 1, 2: 2, 3: 3, 4: 0, 5: 1, 6: 2, 7: 3, 8: 0, 1001: 1,
		-1: 3, -2: 2, -3: 1, -4: 0, -5: 3, -6: 2, -1001: 3,
		math.MaxInt: 3, math.MaxInt - 1: 2, math.MaxInt - 2: 1, math.MaxInt - 3: 0,
		math.MinInt: 0, math.MinInt + 1: 1, math.MinInt + 2: 2, math.MinInt + 3: 3,
	}
}

func TestTurn(t *testing.T) {
	signal := append(edgeSamples(), api.Sample{I: 3, Q: -8}, api.Sample{I: -5, Q: 5})
	for quarters, times := range quarters() {
		for _, s := range [][]api.Sample{nil, {}, air(1), air(2 + 3i), signal, sent("1101", api.MaxAmp)} {
			got, e := phasor.Turn(s, quarters)
			wantSamples(t, "Turn by "+strconv.Itoa(quarters), got, e, turnedAll(s, times))
		}
	}
}

func TestTurnRefuses(t *testing.T) {
	for _, bad := range wrongSamples() {
		for _, n := range []int{1, 2, 20} {
			for _, at := range []int{0, n / 2, n - 1} {
				for quarters := range quarters() {
					s, e := phasor.Turn(with(zeros(n), at, bad), quarters)
					wantNoSamples(t, "Turn", s, e, api.ErrSample)
				}
			}
		}
	}
}

// most is a constant without a kind, so that it can be a part of a number of the plane.
const most = api.MaxLevel

func TestAdd(t *testing.T) {
	type signals = [][]api.Sample
	high, low := air(most+most*1i), air(-most-most*1i)
	for _, c := range []struct {
		l      signals
		wanted []api.Sample
	}{
		{nil, nil},
		{signals{}, nil},
		{signals{nil}, nil},
		{signals{nil, {}, nil}, nil},
		{signals{air(1 + 2i)}, air(1 + 2i)},
		{signals{air(1 + 2i), nil}, air(1 + 2i)},
		{signals{air(1+2i, 3+4i), air(10 - 20i)}, air(11-18i, 3+4i)},
		{signals{air(10 - 20i), air(1+2i, 3+4i)}, air(11-18i, 3+4i)},
		{signals{air(1), air(2, 5i), nil, air(4, 6i, 7+7i), air(8 + 1i)}, air(15+1i, 11i, 7+7i)},
		{signals{high}, high},
		{signals{low}, low},
		{signals{air(most - 1 + 5i), air(1 + 5i)}, air(most + 10i)},
		{signals{air(5 + (1-most)*1i), air(5 - 1i)}, air(10 - most*1i)},
		{signals{air(most/2 - most/2*1i), air(most/2 - most/2*1i)}, air(most - most*1i)},
		{signals{high, high, low}, high},
		{signals{low, low, high}, low},
		{signals{high, low}, air(0)},
	} {
		got, e := phasor.Add(c.l...)
		wantSamples(t, "Add", got, e, c.wanted)
	}
}

func TestAddOfMany(t *testing.T) {
	up, down := air(most-most*1i), air(-most+most*1i, 1)
	l := append(slices.Repeat([][]api.Sample{up}, 5000), slices.Repeat([][]api.Sample{down}, 5001)...)
	got, e := phasor.Add(l...)
	wantSamples(t, "Add of 10001", got, e, air(-most+most*1i, 5001))
	got, e = phasor.Add(append(l, down)...)
	wantNoSamples(t, "Add of 10002", got, e, api.ErrSample)
}

func TestAddRefuses(t *testing.T) {
	type signals = [][]api.Sample
	for _, l := range []signals{
		{air(most), air(1)},
		{air(most * 1i), air(1i)},
		{air(-most), air(-1)},
		{air(-most * 1i), air(-1i)},
		{air(0, 0, most*1i), air(0, 0, 1i)},
		{air(most), air(most), air(-most), air(1)},
		{air(most + 1), air(-1)}, // the sum alone may be, what is added may not
	} {
		got, e := phasor.Add(l...)
		wantNoSamples(t, "Add beyond", got, e, api.ErrSample)
	}
	for _, bad := range wrongSamples() {
		other := api.Sample{I: -bad.I, Q: -bad.Q}
		for _, l := range []signals{
			{{bad}},
			{{bad}, nil},
			{nil, {bad}},
			{air(1+1i, 2+2i), append(air(1+1i), bad), air(3 + 3i)},
			{{bad, {}}, air(1 + 1i)},
			{{bad}, {other}},
			{{other}, {bad}},
		} {
			got, e := phasor.Add(l...)
			wantNoSamples(t, "Add of one that may not be", got, e, api.ErrSample)
		}
	}
}

// P3.3

// matched is Match by whole numbers, the parts of each product written out.
func matched(s []api.Sample) (api.Sample, int, bool) {
	product, strength := api.Sample{}, 0
	for i, p := range pre() {
		x := s[i]
		product.I += x.I*p.I + x.Q*p.Q
		product.Q += x.Q*p.I - x.I*p.Q
		strength += x.I*x.I + x.Q*x.Q
	}
	return product, strength, strength > 0 && 2*(product.I*product.I+product.Q*product.Q) >= 16*strength
}

func wantMatch(t *testing.T, what string, s []api.Sample, at int) {
	t.Helper()
	product, strength, is := phasor.Match(s, at)
	wantedProduct, wantedStrength, wanted := matched(s[at:])
	if product != wantedProduct || strength != wantedStrength || is != wanted {
		t.Errorf("%s: %v, %d, %v; want %v, %d, %v", what, product, strength, is, wantedProduct, wantedStrength, wanted)
	}
}

func wantNoMatch(t *testing.T, what string, s []api.Sample, at int) {
	t.Helper()
	if product, strength, is := phasor.Match(s, at); product != (api.Sample{}) || strength != 0 || is {
		t.Errorf("%s, %d samples, at %d: %v, %d, %v; want nothing", what, len(s), at, product, strength, is)
	}
}

func TestMatchByHand(t *testing.T) {
	half := scaledAll(pre(), 3)
	copy(half, zeros(4))
	less := with(half, 4, api.Sample{})
	aside := with(half, 0, api.Sample{I: 1, Q: -1}) // a quarter off what belongs there: it adds to the strength, and hardly to the product
	for _, c := range []struct {
		what     string
		s        []api.Sample
		product  api.Sample
		strength int
		is       bool
	}{
		{"the preamble", pre(), api.Sample{I: 16}, 16, true},
		{"100 times", scaledAll(pre(), 100), api.Sample{I: 1600}, 160000, true},
		{"turned once", turnedAll(pre(), 1), api.Sample{Q: 16}, 16, true},
		{"turned twice", turnedAll(pre(), 2), api.Sample{I: -16}, 16, true},
		{"turned three times", turnedAll(pre(), 3), api.Sample{Q: -16}, 16, true},
		{"as strong as may be", scaledAll(pre(), api.MaxLevel), api.Sample{I: 16 * api.MaxLevel}, 16 * api.MaxLevel * api.MaxLevel, true},
		{"all 0", zeros(8), api.Sample{}, 0, false},
		{"half of it", half, api.Sample{I: 24}, 72, true},
		{"half of it, and a bit aside", aside, api.Sample{I: 24, Q: -2}, 74, false},
		{"less than half", less, api.Sample{I: 18}, 54, false},
		{"all the same", slices.Repeat(air(1+1i), 8), api.Sample{I: 4, Q: 0}, 16, false},
	} {
		product, strength, is := phasor.Match(c.s, 0)
		if product != c.product || strength != c.strength || is != c.is {
			t.Errorf("Match of %s: %v, %d, %v; want %v, %d, %v", c.what, product, strength, is, c.product, c.strength, c.is)
		}
	}
}

func TestMatchAgainstWholeNumbers(t *testing.T) {
	c := chance(3)
	is := map[bool]int{}
	for range 20000 {
		reach := []int{1, 2, 3, 10, 1000, api.MaxLevel}[c.below(6)]
		s := make([]api.Sample, 10)
		for i := range s {
			s[i] = api.Sample{I: c.below(2*reach+1) - reach, Q: c.below(2*reach+1) - reach}
			if i >= 1 && i < 9 && c.below(3) > 0 {
				s[i] = scaled(pre()[i-1], reach)
			}
		}
		for at := range 3 {
			wantMatch(t, "Match", s, at)
		}
		_, _, yes := matched(s[1:])
		is[yes]++
	}
	if is[true] < 1000 || is[false] < 1000 {
		t.Errorf("the samples try too little: %v", is)
	}
}

func TestMatchOfEdges(t *testing.T) {
	for _, edge := range edgeSamples() {
		wantMatch(t, "Match of one sample, again and again", slices.Repeat([]api.Sample{edge}, 8), 0)
		for i := range 8 {
			wantMatch(t, "Match of one sample alone", with(zeros(8), i, edge), 0)
			wantMatch(t, "Match with one sample", with(pre(), i, edge), 0)
		}
	}
}

func TestMatchPlaces(t *testing.T) {
	for n := range 8 {
		for at := -9; at <= 9; at++ {
			wantNoMatch(t, "too few", scaledAll(pre(), 5)[:n], at)
		}
	}
	wantNoMatch(t, "nil", nil, 0)
	s := slices.Concat(pre(), pre(), pre())
	for _, at := range []int{-1, -8, math.MinInt, math.MinInt + 8, 17, 18, 23, 24, 25, 1 << 32, math.MaxInt, math.MaxInt - 7, math.MaxInt - 8} {
		wantNoMatch(t, "no such place", s, at)
	}
	for at := range 17 {
		wantMatch(t, "Match at "+strconv.Itoa(at), s, at)
	}
	for _, at := range []int{0, 8, 16} {
		if _, _, is := phasor.Match(s, at); !is {
			t.Errorf("no Match at %d", at)
		}
	}
}

func TestMatchOfWrongSamples(t *testing.T) {
	s := slices.Concat(pre(), pre(), pre())
	for _, bad := range wrongSamples() {
		for i := range 8 {
			wantNoMatch(t, "one may not be", with(s, 8+i, bad), 8)
		}
		for _, outside := range []int{0, 7, 16, 23} {
			if product, strength, is := phasor.Match(with(s, outside, bad), 8); product != (api.Sample{I: 16}) || strength != 16 || !is {
				t.Errorf("Match with one outside that may not be: %v, %d, %v", product, strength, is)
			}
		}
	}
}

func wantFind(t *testing.T, what string, s []api.Sample, from, wantedAt, wantedQuarters int) {
	t.Helper()
	if at, quarters, e := phasor.Find(s, from); at != wantedAt || quarters != wantedQuarters || e != api.OK {
		t.Errorf("%s, from %d: %d, %d, error %d; want %d, %d", what, from, at, quarters, e, wantedAt, wantedQuarters)
	}
}

func wantNotFound(t *testing.T, what string, s []api.Sample, from int, wanted api.Errno) {
	t.Helper()
	if at, quarters, e := phasor.Find(s, from); at != 0 || quarters != 0 || e != wanted {
		t.Errorf("%s, from %d: %d, %d, error %d; want error %d and nothing beside it", what, from, at, quarters, e, wanted)
	}
}

func TestFindQuarters(t *testing.T) {
	for _, c := range []struct{ i, q, quarters int }{
		{1, 0, 0}, {0, 1, 1}, {-1, 0, 2}, {0, -1, 3},
		{1, 1, 0}, {1, -1, 0}, {-1, 1, 1}, {-1, -1, 2},
		{100, 99, 0}, {100, -99, 0}, {99, 100, 1}, {-99, 100, 1}, {-100, 99, 2}, {-100, -99, 2}, {99, -100, 3}, {-99, -100, 3},
	} {
		var s []api.Sample
		for _, p := range pre() {
			s = append(s, api.Sample{I: p.I*c.i - p.Q*c.q, Q: p.I*c.q + p.Q*c.i})
		}
		if product, _, is := phasor.Match(s, 0); product != (api.Sample{I: 16 * c.i, Q: 16 * c.q}) || !is {
			t.Fatalf("the product is %v, %v; want 16 times %d, %d", product, is, c.i, c.q)
		}
		wantFind(t, "Find", s, 0, 0, c.quarters)
	}
}

func TestFindPlaces(t *testing.T) {
	s := slices.Concat(zeros(10), pre(), zeros(10), turnedAll(pre(), 3), zeros(10))
	for from := 0; from <= 10; from++ {
		wantFind(t, "the first", s, from, 10, 0)
	}
	for from := 11; from <= 28; from++ {
		wantFind(t, "the second", s, from, 28, 3)
	}
	for _, from := range []int{29, 36, 38, 39, 45, 46, 47, 1 << 32, math.MaxInt, math.MaxInt - 7} {
		wantNotFound(t, "behind both", s, from, api.ErrNone)
	}
	for _, l := range [][]api.Sample{s, nil, {}, pre(), zeros(3)} {
		for _, from := range []int{-1, -8, math.MinInt, math.MinInt + 1} {
			wantNotFound(t, "below 0", l, from, api.ErrArg)
		}
	}
	wantFind(t, "the last place", slices.Concat(zeros(10), pre()), 10, 10, 0)
	wantNotFound(t, "just behind the last place", slices.Concat(zeros(10), pre()), 11, api.ErrNone)
}

func TestFindNothing(t *testing.T) {
	for _, s := range [][]api.Sample{nil, {}, zeros(7), zeros(8), zeros(100), pre()[:7], pre()[1:], slices.Repeat(air(5+5i), 50)} {
		wantNotFound(t, "nothing is there", s, 0, api.ErrNone)
	}
	for _, bad := range wrongSamples() {
		for i := range 8 {
			wantNotFound(t, "one may not be", with(pre(), i, bad), 0, api.ErrNone)
			wantFind(t, "one ahead may not be", slices.Concat(with(pre(), i, bad), zeros(8), turnedAll(pre(), 1)), 0, 16, 1)
		}
		wantFind(t, "one behind may not be", append(pre(), bad), 0, 0, 0)
	}
}

// found is the first place that matches, by whole numbers.
func found(s []api.Sample, from int) int {
	for at := from; at+8 <= len(s); at++ {
		if _, _, is := matched(s[at:]); is {
			return at
		}
	}
	return -1
}

func TestFindIsTheFirstMatch(t *testing.T) {
	c := chance(17)
	seen := map[int]bool{}
	for range 300 {
		s := make([]api.Sample, 60)
		for i := range s {
			s[i] = pair(digits(c.below(4), 2))
		}
		for from := range 60 {
			at := found(s, from)
			seen[at] = true
			if at < 0 {
				wantNotFound(t, "no match", s, from, api.ErrNone)
			} else if got, _, e := phasor.Find(s, from); got != at || e != api.OK {
				t.Errorf("Find from %d: %d, error %d; want %d", from, got, e, at)
			}
		}
	}
	if len(seen) < 30 {
		t.Errorf("the samples try too little: %d places", len(seen))
	}
}

// P3.4

// read is Decode by whole numbers and digits, from a place behind which the length is.
func read(s []api.Sample, at, times int) (string, api.Errno) {
	sign := map[bool]string{false: "0", true: "1"}
	s = s[at+8:]
	text := ""
	for i := range 6 {
		if beyond(s[i]) {
			return "", api.ErrSample
		}
		x := turned(s[i], 4-times)
		text += sign[x.Q < 0] + sign[x.I < 0]
	}
	n, _ := strconv.ParseInt(text, 2, 32)
	if s = s[6:]; len(s)*2 < int(n) {
		return "", api.ErrCut
	}
	text = ""
	for i := 0; len(text) < int(n); i++ {
		if beyond(s[i]) {
			return "", api.ErrSample
		}
		x := turned(s[i], 4-times)
		text += sign[x.Q < 0] + sign[x.I < 0]
	}
	if text[n:] == "1" {
		return "", api.ErrPad
	}
	return text[:n], api.OK
}

func beyond(x api.Sample) bool {
	return x.I > 1<<18 || x.I < -1<<18 || x.Q > 1<<18 || x.Q < -1<<18
}

func TestDecode(t *testing.T) {
	for _, digits := range rows() {
		for _, amp := range []int{1, api.MaxAmp} {
			s := sent(digits, amp)
			b, e := phasor.Decode(s, 0, 0)
			wantBits(t, "Decode", b, e, digits)
			b, e = phasor.Decode(slices.Concat(zeros(5), s, zeros(5)), 5, 0)
			wantBits(t, "Decode at 5", b, e, digits)
		}
	}
}

func TestDecodeTurns(t *testing.T) {
	for quarters, times := range quarters() {
		for _, digits := range []string{"", "1", "01", "110", "1101001", row(101, 6)} {
			b, e := phasor.Decode(turnedAll(sent(digits, 9), times), 0, quarters)
			wantBits(t, "Decode with "+strconv.Itoa(quarters), b, e, digits)
		}
	}
	// Turned the wrong way 0 bits are others: 01 01 .. is 1365 bits, of which there is none.
	b, e := phasor.Decode(turnedAll(sent("", 9), 1), 0, 0)
	wantNoBits(t, "Decode with the wrong quarters", b, e, api.ErrCut)
}

// TestDecodeOfAxes has samples with a part that is 0, which counts as above 0 when all are turned back.
func TestDecodeOfAxes(t *testing.T) {
	head := append(pre(), pairs(digits(2, 12), 1)...)
	for _, c := range []struct {
		x      api.Sample
		wanted [4]string
	}{
		{api.Sample{}, [4]string{"00", "00", "00", "00"}},
		{api.Sample{I: 1}, [4]string{"00", "10", "01", "00"}},
		{api.Sample{Q: 1}, [4]string{"00", "00", "10", "01"}},
		{api.Sample{I: -1}, [4]string{"01", "00", "00", "10"}},
		{api.Sample{Q: -1}, [4]string{"10", "01", "00", "00"}},
	} {
		for times := range 4 {
			b, e := phasor.Decode(append(turnedAll(head, times), c.x), 0, times)
			wantBits(t, "Decode of an axis, turned back by "+strconv.Itoa(times), b, e, c.wanted[times])
		}
	}
	b, e := phasor.Decode(zeros(14), 0, 0)
	wantBits(t, "Decode of samples that are 0", b, e, "")
	for quarters := range quarters() {
		b, e = phasor.Decode(zeros(20), 2, quarters)
		wantBits(t, "Decode of samples that are 0, turned", b, e, "")
	}
}

func TestDecodeAgainstWholeNumbers(t *testing.T) {
	c := chance(29)
	seen := map[api.Errno]int{}
	for range 30000 {
		s := make([]api.Sample, 14+c.below(12))
		for i := range s {
			s[i] = api.Sample{I: c.below(9) - 4, Q: c.below(9) - 4}
			if c.below(40) == 0 {
				s[i] = wrongSamples()[c.below(4)]
			}
		}
		at, times := c.below(len(s)-13), c.below(4)
		if c.below(4) > 0 { // a length that may well be there
			copy(s[at+8:], turnedAll(pairs(digits(c.below(20), 12), 1), times))
		}
		wanted, wantedError := read(s, at, times)
		seen[wantedError]++
		b, e := phasor.Decode(s, at, times)
		if wantedError == api.OK {
			wantBits(t, "Decode", b, e, wanted)
		} else {
			wantNoBits(t, "Decode", b, e, wantedError)
		}
	}
	for _, e := range []api.Errno{api.OK, api.ErrCut, api.ErrSample, api.ErrPad} {
		if seen[e] < 500 {
			t.Errorf("the samples try too little: error %d %d times", e, seen[e])
		}
	}
}

func TestDecodeRefusesPlaces(t *testing.T) {
	bad := api.Sample{I: math.MaxInt}
	for _, s := range [][]api.Sample{nil, {}, sent("01", 1), slices.Repeat([]api.Sample{bad}, 30)} {
		for _, at := range []int{-1, -14, math.MinInt, math.MinInt + 14} {
			b, e := phasor.Decode(s, at, 0)
			wantNoBits(t, "Decode below 0", b, e, api.ErrArg)
		}
		for _, at := range []int{len(s), len(s) + 1, len(s) - 13, math.MaxInt, math.MaxInt - 13, math.MaxInt - 14} {
			b, e := phasor.Decode(s, max(at, 0), 0)
			wantNoBits(t, "Decode with too few from there on", b, e, api.ErrCut)
		}
	}
	for n := range 14 {
		b, e := phasor.Decode(sent("", 1)[:n], 0, 0)
		wantNoBits(t, "Decode of "+strconv.Itoa(n)+" samples", b, e, api.ErrCut)
		b, e = phasor.Decode(slices.Repeat([]api.Sample{bad}, n), 0, 0)
		wantNoBits(t, "Decode of too few that may not be", b, e, api.ErrCut)
	}
	b, e := phasor.Decode(slices.Concat(zeros(9), sent("", 1)), 9, 0)
	wantBits(t, "Decode at the last place", b, e, "")
	b, e = phasor.Decode(slices.Concat(zeros(9), sent("", 1)), 10, 0)
	wantNoBits(t, "Decode just behind the last place", b, e, api.ErrCut)
}

func TestDecodeCut(t *testing.T) {
	for _, digits := range []string{"1", "01", "110", "1101", row(99, 1), row(100, 2), row(4094, 3), row(4095, 4)} {
		s := sent(digits, 7)
		for _, n := range []int{14, 15, len(s) - 2, len(s) - 1} {
			if n < 14 || n >= len(s) {
				continue
			}
			b, e := phasor.Decode(s[:n], 0, 0)
			wantNoBits(t, "Decode of a part", b, e, api.ErrCut)
			b, e = phasor.Receive(s[:n])
			wantNoBits(t, "Receive of a part", b, e, api.ErrCut)
		}
	}
}

func TestDecodeOfWrongSamples(t *testing.T) {
	digits := "1101001"
	s := slices.Concat(zeros(3), sent(digits, 7), zeros(3))
	for _, bad := range wrongSamples() {
		for i := range s {
			b, e := phasor.Decode(with(s, i, bad), 3, 0)
			if i < 3+8 || i >= 3+18 { // nobody asks for those of the preamble, or outside
				wantBits(t, "Decode with one that may not be at "+strconv.Itoa(i), b, e, digits)
			} else {
				wantNoBits(t, "Decode with one that may not be at "+strconv.Itoa(i), b, e, api.ErrSample)
			}
		}
	}
	for _, edge := range edgeSamples() {
		b, e := phasor.Decode(append(sent("", 1), edge), 0, 0)
		wantBits(t, "Decode with an edge behind", b, e, "")
		two := map[bool]string{false: "0", true: "1"}
		s := with(sent("00", 1), 14, edge)
		b, e = phasor.Decode(s, 0, 0)
		wantBits(t, "Decode of an edge", b, e, two[edge.Q < 0]+two[edge.I < 0])
	}
}

func TestDecodePad(t *testing.T) {
	for _, digits := range []string{"1", "0", "010", "11111", row(4095, 9)} {
		s := sent(digits, 3)
		last := s[len(s)-1]
		last.I = -3
		b, e := phasor.Decode(with(s, len(s)-1, last), 0, 0)
		wantNoBits(t, "Decode with a 1 behind the last bit", b, e, api.ErrPad)
		b, e = phasor.Receive(with(s, len(s)-1, last))
		wantNoBits(t, "Receive with a 1 behind the last bit", b, e, api.ErrPad)
	}
	// What stands behind the samples of the bits is no matter, nor is there a bit behind an even number.
	b, e := phasor.Decode(append(sent("11", 3), api.Sample{I: -3, Q: -3}), 0, 0)
	wantBits(t, "Decode with more behind", b, e, "11")
}

func TestDecodeFirstError(t *testing.T) {
	bad := api.Sample{Q: api.MaxLevel + 1}
	length5 := append(pre(), pairs(digits(5, 12), 1)...)
	for _, c := range []struct {
		what   string
		s      []api.Sample
		at     int
		wanted api.Errno
	}{
		{"below 0 and too few", []api.Sample{bad}, -1, api.ErrArg},
		{"too few and one in the length", with(length5, 8, bad)[:13], 0, api.ErrCut},
		{"one in the length and too few for the bits", with(length5, 13, bad), 0, api.ErrSample},
		{"too few for the bits and one among them", append(length5, bad, bad), 0, api.ErrCut},
		{"one among the bits and a 1 behind", append(length5, bad, pair("00"), pair("01")), 0, api.ErrSample},
		{"a 1 behind in one that may not be", append(length5, pair("00"), pair("00"), api.Sample{I: -api.MaxLevel - 1, Q: 1}), 0, api.ErrSample},
		{"a 1 behind", append(length5, pair("00"), pair("00"), api.Sample{I: -api.MaxLevel, Q: 1}), 0, api.ErrPad},
	} {
		b, e := phasor.Decode(c.s, c.at, 0)
		wantNoBits(t, "Decode, "+c.what, b, e, c.wanted)
	}
}

func TestReceive(t *testing.T) {
	b, e := phasor.Receive(slices.Concat(zeros(40), sent("1101", 8), turnedAll(sent("001", 8), 1)))
	wantBits(t, "Receive of the first of two", b, e, "1101")
	for _, s := range [][]api.Sample{nil, {}, zeros(7), zeros(50), sent("01", 1)[:7], slices.Repeat(air(4+4i), 30)} {
		b, e := phasor.Receive(s)
		wantNoBits(t, "Receive of nothing", b, e, api.ErrNone)
	}
	for n := 8; n < 14; n++ {
		b, e := phasor.Receive(sent("01", 1)[:n])
		wantNoBits(t, "Receive of "+strconv.Itoa(n)+" samples", b, e, api.ErrCut)
	}
	for _, bad := range wrongSamples() {
		b, e := phasor.Receive(with(sent("01", 1), 0, bad))
		wantNoBits(t, "Receive with one in the preamble that may not be", b, e, api.ErrNone)
		for _, at := range []int{8, 13, 14} {
			b, e = phasor.Receive(with(sent("01", 1), at, bad))
			wantNoBits(t, "Receive with one behind the preamble that may not be", b, e, api.ErrSample)
		}
		b, e = phasor.Receive(append(sent("01", 1), bad))
		wantBits(t, "Receive with one behind all that may not be", b, e, "01")
	}
}

// P3.5

func TestThereAndBack(t *testing.T) {
	for _, digits := range rows() {
		for _, amp := range []int{1, 2, 77, api.MaxAmp} {
			s, e := phasor.Encode(made(digits), amp)
			if e != api.OK {
				t.Fatalf("Encode: %d", e)
			}
			for _, quarters := range []int{0, 1, 2, 3, 4, -1, -2, -3, math.MaxInt, math.MinInt} {
				x, e := phasor.Turn(s, quarters)
				if e != api.OK {
					t.Fatalf("Turn: %d", e)
				}
				for ahead := range 4 {
					b, e := phasor.Receive(append(zeros(ahead), x...))
					wantBits(t, strconv.Itoa(len(digits))+" bits, turned by "+strconv.Itoa(quarters)+", behind "+strconv.Itoa(ahead), b, e, digits)
				}
			}
		}
	}
}

// P3.6

func TestBearsNoise(t *testing.T) {
	c := chance(41)
	for _, digits := range rows() {
		for _, amp := range []int{1, 7, 8, 9, 16, 1000, api.MaxAmp} {
			reach := amp / 8
			s, _ := phasor.Encode(made(digits), amp)
			for way := range 6 {
				noise := make([]api.Sample, len(s))
				for i, x := range s {
					noise[i] = noiseOf(&c, way, reach, x)
				}
				sum, e := phasor.Add(s, noise)
				if e != api.OK {
					t.Fatalf("Add: %d", e)
				}
				b, e := phasor.Receive(sum)
				wantBits(t, "with noise of "+strconv.Itoa(reach), b, e, digits)
			}
		}
	}
}

// noiseOf is noise by chance, or as great as may be: weaker, stronger, turned to either side.
func noiseOf(c *chance, way, reach int, x api.Sample) api.Sample {
	i, q := reach, reach
	if x.I < 0 {
		i = -reach
	}
	if x.Q < 0 {
		q = -reach
	}
	switch way {
	case 0:
		return api.Sample{I: -i, Q: -q}
	case 1:
		return api.Sample{I: i, Q: q}
	case 2:
		return api.Sample{I: -q, Q: i}
	case 3:
		return api.Sample{I: q, Q: -i}
	}
	return api.Sample{I: c.below(2*reach+1) - reach, Q: c.below(2*reach+1) - reach}
}

// P3.7

func TestTurning(t *testing.T) {
	s := append(edgeSamples(), sent(row(50, 3), 11)...)
	turn := func(s []api.Sample, quarters int) []api.Sample {
		x, e := phasor.Turn(s, quarters)
		if e != api.OK {
			t.Fatalf("Turn: %d", e)
		}
		return x
	}
	if !slices.Equal(turn(s, 4), s) || !slices.Equal(turn(s, -4), s) || slices.Equal(turn(s, 2), s) {
		t.Error("Turn by four quarters is something")
	}
	for a := -6; a <= 6; a++ {
		for b := -6; b <= 6; b++ {
			if !slices.Equal(turn(turn(s, a), b), turn(s, a+b)) {
				t.Errorf("Turn by %d, then by %d, is not Turn by both", a, b)
			}
		}
		for at := range len(s) - 7 {
			product, strength, is := phasor.Match(s, at)
			turnedProduct, turnedStrength, turnedIs := phasor.Match(turn(s, a), at)
			if strength != turnedStrength || is != turnedIs || turnedProduct != turned(product, (a+8)%4) {
				t.Errorf("Match at %d, turned by %d: %v, %d, %v; was %v, %d, %v", at, a, turnedProduct, turnedStrength, turnedIs, product, strength, is)
			}
		}
	}
}

// R3

func TestNothingHandedInChanges(t *testing.T) {
	digits := row(35, 12)
	b := made(digits)
	back := slices.Concat(sent(digits, 6), air(1+2i, 3+4i))
	s := back[:len(back)-2]
	keep := slices.Clone(back)
	l := [][]api.Sample{s, s[:3], nil}
	phasor.Encode(b, 6)
	phasor.Turn(s, 1)
	phasor.Add(l...)
	phasor.Add(s)
	phasor.Match(s, 0)
	phasor.Find(s, 0)
	phasor.Decode(s, 0, 1)
	phasor.Decode(s, 0, 0)
	phasor.Receive(s)
	if !equal(b, made(digits)) {
		t.Error("the bits changed")
	}
	if !slices.Equal(back, keep) || len(l) != 3 || !slices.Equal(l[0], s) || !slices.Equal(l[1], s[:3]) || l[2] != nil {
		t.Error("the samples changed")
	}
}

func TestNothingAnsweredIsShared(t *testing.T) {
	spoil := func(s []api.Sample) {
		s = s[:cap(s)]
		for i := range s {
			s[i] = api.Sample{I: 99, Q: 99}
		}
	}
	s := sent("110", 6)
	keep := slices.Clone(s)
	for _, quarters := range []int{0, 1, 4} {
		x, _ := phasor.Turn(s, quarters)
		spoil(x)
		if !slices.Equal(s, keep) {
			t.Fatalf("Turn by %d shares memory", quarters)
		}
	}
	for _, l := range [][][]api.Sample{{s}, {s, nil}, {nil, s}, {s, s[:1]}} {
		x, _ := phasor.Add(l...)
		spoil(x)
		if !slices.Equal(s, keep) {
			t.Fatal("Add shares memory")
		}
	}
	b := made("110")
	first, _ := phasor.Encode(b, 6)
	spoil(first)
	second, e := phasor.Encode(b, 6)
	wantSamples(t, "Encode behind a change of its answer", second, e, keep)
	one, _ := phasor.Decode(s, 0, 0)
	one.B[0] = 0xff
	two, e := phasor.Decode(s, 0, 0)
	wantBits(t, "Decode behind a change of its answer", two, e, "110")
	one, _ = phasor.Receive(s)
	one.B[0] = 0xff
	two, e = phasor.Receive(s)
	wantBits(t, "Receive behind a change of its answer", two, e, "110")
}

// P1

func TestNothingPanics(t *testing.T) {
	numbers := []int{math.MinInt, math.MinInt + 1, -api.MaxLevel, -9, -1, 0, 1, 4, 8, 13, 14, 15, 20, api.MaxPay, api.MaxBits, api.MaxAmp, 1 << 32, math.MaxInt - 14, math.MaxInt - 8, math.MaxInt - 1, math.MaxInt}
	lists := [][]api.Sample{nil, {}, zeros(1), zeros(8), zeros(14), zeros(40), pre(), sent("", 1), sent("101", api.MaxAmp), wrongSamples(), append(pre(), wrongSamples()...), slices.Repeat(air(-1-1i), 2061), slices.Repeat([]api.Sample{{I: math.MinInt, Q: math.MinInt}}, 20)}
	for _, n := range numbers {
		phasor.Air(n)
		for _, b := range append(refused(), api.Bits{}, made("1"), made(row(api.MaxBits, 1))) {
			phasor.Encode(b, n)
		}
		for _, s := range lists {
			phasor.Turn(s, n)
			phasor.Match(s, n)
			phasor.Find(s, n)
			for _, m := range numbers {
				phasor.Decode(s, n, m)
			}
		}
	}
	phasor.Add(lists...)
	for _, s := range lists {
		phasor.Receive(s)
		phasor.Add(s, s, s)
	}
}
