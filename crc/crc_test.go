package crc_test

import (
	"math"
	"slices"
	"strconv"
	"strings"
	"testing"

	"metronome/api"
	"metronome/bits"
	"metronome/crc"
)

// made builds bits from digits without the packages that are tested.
func made(digits string) api.Bits {
	b := api.Bits{N: len(digits), B: make([]byte, (len(digits)+7)/8)}
	for i, d := range []byte(digits) {
		if d == '1' {
			b.B[i/8] |= 128 >> (i % 8)
		}
	}
	return b
}

func madeAll(l []string) []api.Bits {
	var out []api.Bits
	for _, s := range l {
		out = append(out, made(s))
	}
	return out
}

// row is n digits by a fixed rule, other ones for another seed.
func row(n int, seed uint32) string {
	var s strings.Builder
	for range n {
		seed = seed*1664525 + 1013904223
		s.WriteByte('0' + byte(seed>>31))
	}
	return s.String()
}

// digits is a number in width digits, the highest first.
func digits(v uint64, width int) string {
	if width == 0 {
		return ""
	}
	s := strconv.FormatUint(v, 2)
	return strings.Repeat("0", width-len(s)) + s
}

// divisor are the digits of x^24 and of what the chapter calls SumPoly.
const divisor = "1" + "0101" + "1101" + "0110" + "1101" + "1100" + "1011"

// wantedSum is the sum by long division of the digits, 24 zeros behind them, and not by shifts.
func wantedSum(s string) uint32 {
	l := []byte(s + strings.Repeat("0", 24))
	for i := range len(s) {
		if l[i] == '0' {
			continue
		}
		for j := range len(divisor) {
			l[i+j] ^= divisor[j] - '0'
		}
	}
	v, err := strconv.ParseUint(string(l[len(s):]), 2, 32)
	if err != nil {
		panic(err)
	}
	return uint32(v)
}

// sealed are the digits of what Seal should answer.
func sealed(s, unsent string) string { return s + digits(uint64(wantedSum(unsent+s)), 24) }

// rows are digits of many lengths: all up to 9, some around fours, bytes, sums and the limit.
func rows() []string {
	var l []string
	for n := range 10 {
		for v := range uint64(1) << n {
			l = append(l, digits(v, n))
		}
	}
	for i, n := range []int{10, 11, 12, 15, 16, 17, 23, 24, 25, 26, 27, 28, 31, 32, 33, 47, 48, 49, 100, 127, 1001, 1002, 1003, 4071, 4072, 4073, 4093, 4094, 4095, 4096} {
		l = append(l, row(n, uint32(i)), strings.Repeat("1", n), strings.Repeat("0", n), "1"+strings.Repeat("0", n-1))
	}
	return l
}

// refused are bits that bits.Check refuses.
func refused() []api.Bits {
	lastOne := make([]byte, 512)
	lastOne[511] = 1
	return []api.Bits{
		{N: -1},
		{N: -1, B: []byte{0}},
		{N: -24, B: make([]byte, 3)},
		{N: math.MinInt},
		{N: math.MaxInt},
		{N: math.MaxInt, B: []byte{1}},
		{N: api.MaxBits + 1, B: make([]byte, 513)},
		{N: api.MaxBits + 8, B: make([]byte, 513)},
		{N: 0, B: []byte{0}},
		{N: 1},
		{N: 1, B: []byte{0, 0}},
		{N: 1, B: []byte{0x40}},
		{N: 3, B: []byte{0xff}},
		{N: 9, B: []byte{0}},
		{N: 24, B: []byte{0, 0}},
		{N: 25, B: []byte{0, 0, 0, 0x01}},
		{N: 48, B: make([]byte, 7)},
		{N: api.MaxBits, B: make([]byte, 511)},
		{N: api.MaxBits - 1, B: lastOne},
	}
}

// empties are no bits, in the ways in which there may be none.
func empties() []api.Bits {
	return []api.Bits{{}, {N: 0, B: []byte{}}, {N: 0, B: make([]byte, 0, 9)}}
}

func equal(a, b api.Bits) bool { return a.N == b.N && slices.Equal(a.B, b.B) }

// want holds an answer with its error against digits.
func want(t *testing.T, what string, got api.Bits, e api.Errno, digits string) {
	t.Helper()
	if e != api.OK || !equal(got, made(digits)) {
		t.Errorf("%s: got %d bits %x, error %d; want %d bits %x", what, got.N, got.B, e, len(digits), made(digits).B)
	}
}

// wantError holds an answer against an error beside which all else is zero.
func wantError(t *testing.T, what string, got api.Bits, e, wanted api.Errno) {
	t.Helper()
	if e != wanted || got.N != 0 || len(got.B) != 0 {
		t.Errorf("%s: got %d bits %x, error %d; want error %d and nothing beside it", what, got.N, got.B, e, wanted)
	}
}

func wantSum(t *testing.T, what string, wanted uint32, l ...api.Bits) {
	t.Helper()
	if got, e := crc.Sum(l...); got != wanted || e != api.OK {
		t.Errorf("%s: got %06x, error %d; want %06x", what, got, e, wanted)
	}
}

// P2.1

func TestSumExamples(t *testing.T) {
	wantSum(t, "Sum of 1", 0x5d6dcb, made("1"))
	wantSum(t, "Sum of 01", 0x5d6dcb, made("01"))
	wantSum(t, "Sum of 10", 0xbadb96, made("10"))
	wantSum(t, "Sum of 0", 0, made("0"))
}

func TestSumOfNothing(t *testing.T) {
	wantSum(t, "Sum of no string", 0)
	wantSum(t, "Sum of a nil list", 0, []api.Bits(nil)...)
	wantSum(t, "Sum of an empty list", 0, []api.Bits{}...)
	for _, none := range empties() {
		wantSum(t, "Sum of an empty string", 0, none)
		wantSum(t, "Sum of empty strings", 0, none, none, none)
		wantSum(t, "Sum with empty strings", 0x5d6dcb, none, made("1"), none)
	}
}

// The sum of this divisor that begins with I is the one that begins with 0 if I is put over the first 24 bits; for two I the sum of the text 123456789 is known the world over.
func TestSumKnownOutside(t *testing.T) {
	for _, known := range []struct{ first, sum uint32 }{{0xfedcba, 0x7979bd}, {0xabcdef, 0x1f23b8}} {
		l := []byte("123456789")
		for i := range 3 {
			l[i] ^= byte(known.first >> (16 - 8*i))
		}
		wantSum(t, "Sum of 123456789", known.sum, api.Bits{N: 72, B: l})
	}
}

func TestSumAgainstDivision(t *testing.T) {
	for _, s := range rows() {
		wantSum(t, "Sum of "+strconv.Itoa(len(s))+" bits", wantedSum(s), made(s))
	}
}

// TestSumOfOneBit goes through each place, so that each step of four bits and of one has its turn.
func TestSumOfOneBit(t *testing.T) {
	for n := 1; n <= 61; n++ {
		for at := range n {
			s := strings.Repeat("0", at) + "1" + strings.Repeat("0", n-1-at)
			wantSum(t, "Sum of bit "+strconv.Itoa(at)+" of "+strconv.Itoa(n), wantedSum(s), made(s))
		}
	}
}

func TestSumOfSeveral(t *testing.T) {
	for _, parts := range [][]string{
		{"1", "1"},
		{"0", "1"},
		{"101", "1"},
		{"1", "101"},
		{"1011", "1"},
		{"10", "110", "", "0111", "01101"},
		{"", "", "1", "", ""},
		{row(24, 1), row(36, 2)},
		{row(7, 1), row(8, 2), row(9, 3), row(1, 4), row(4, 5), row(30, 6)},
		{row(4095, 1), row(4096, 2)},
		{row(4096, 1), row(4096, 2), row(4093, 3), row(3, 4)},
	} {
		wantSum(t, "Sum of "+strconv.Itoa(len(parts))+" strings", wantedSum(strings.Join(parts, "")), madeAll(parts)...)
	}
	whole := row(50, 9)
	for i := range 51 {
		for j := i; j <= 50; j++ {
			wantSum(t, "Sum of three parts", wantedSum(whole), madeAll([]string{whole[:i], whole[i:j], whole[j:]})...)
		}
	}
	single := strings.Split(whole, "")
	wantSum(t, "Sum of single bits", wantedSum(whole), madeAll(single)...)
}

func TestSumRefuses(t *testing.T) {
	good := made(row(13, 1))
	for i, bad := range refused() {
		for _, l := range [][]api.Bits{
			{bad},
			{bad, good},
			{good, bad},
			{good, bad, good},
			{good, good, good, bad},
			{api.Bits{}, bad},
			{bad, bad},
		} {
			if sum, e := crc.Sum(l...); sum != 0 || e != api.ErrBits {
				t.Errorf("Sum with refused %d: %06x, error %d", i, sum, e)
			}
		}
	}
}

// P2.2

func TestSeal(t *testing.T) {
	for i, s := range rows() {
		if len(s) > api.MaxBits-24 {
			continue
		}
		for _, unsent := range []string{"", "1", row(i%50, uint32(i)), row(24, uint32(i))} {
			b, e := crc.Seal(made(s), made(unsent))
			want(t, "Seal of "+strconv.Itoa(len(s))+" bits", b, e, sealed(s, unsent))
		}
	}
	for _, none := range empties() {
		b, e := crc.Seal(none, none)
		want(t, "Seal of nothing", b, e, strings.Repeat("0", 24))
		b, e = crc.Seal(none, made("1"))
		want(t, "Seal of nothing but what is not sent", b, e, digits(0x5d6dcb, 24))
		b, e = crc.Seal(made("1"), none)
		want(t, "Seal of 1", b, e, "1"+digits(0x5d6dcb, 24))
	}
}

func TestSealUpToTheLimit(t *testing.T) {
	for _, unsent := range []string{"", row(24, 1), row(api.MaxBits-1, 2), row(api.MaxBits, 3)} {
		for _, n := range []int{4071, 4072} {
			s := row(n, uint32(n))
			b, e := crc.Seal(made(s), made(unsent))
			want(t, "Seal up to the limit", b, e, sealed(s, unsent))
		}
		for _, n := range []int{4073, 4074, 4080, 4095, 4096} {
			b, e := crc.Seal(made(row(n, 1)), made(unsent))
			wantError(t, "Seal of "+strconv.Itoa(n)+" bits", b, e, api.ErrLong)
		}
	}
}

func TestOpen(t *testing.T) {
	for i, s := range rows() {
		if len(s) > api.MaxBits-24 {
			continue
		}
		for _, unsent := range []string{"", "0", "1", row(i%50, uint32(i)), row(24, uint32(i)), row(4096, uint32(i))} {
			b, e := crc.Open(made(sealed(s, unsent)), made(unsent))
			want(t, "Open of "+strconv.Itoa(len(s))+" bits", b, e, s)
		}
	}
	for _, none := range empties() {
		b, e := crc.Open(made(strings.Repeat("0", 24)), none)
		want(t, "Open of nothing", b, e, "")
		b, e = crc.Open(made("1"+digits(0x5d6dcb, 24)), none)
		want(t, "Open of 1", b, e, "1")
	}
}

func TestOpenRefusesTheShort(t *testing.T) {
	for _, unsent := range []string{"", "1", row(24, 1), row(4096, 2)} {
		for n := range 24 {
			for _, s := range []string{strings.Repeat("0", n), strings.Repeat("1", n), row(n, uint32(n))} {
				b, e := crc.Open(made(s), made(unsent))
				wantError(t, "Open of "+strconv.Itoa(n)+" bits", b, e, api.ErrShort)
			}
		}
		for n := 24; n <= 26; n++ {
			s := row(n-24, 5)
			b, e := crc.Open(made(sealed(s, unsent)), made(unsent))
			want(t, "Open of "+strconv.Itoa(n)+" bits", b, e, s)
		}
	}
	for _, none := range empties() {
		b, e := crc.Open(none, none)
		wantError(t, "Open of nothing", b, e, api.ErrShort)
	}
}

// TestOpenRefusesAnotherSum goes through sums that differ from the bits' own in each way of one bit, and in some of many.
func TestOpenRefusesAnotherSum(t *testing.T) {
	for _, s := range []string{"", "1", "0110", row(11, 1), row(96, 2), row(4072, 3)} {
		for _, unsent := range []string{"", "1", row(24, 4)} {
			own := uint64(wantedSum(unsent + s))
			for i := range 24 {
				b, e := crc.Open(made(s+digits(own^1<<i, 24)), made(unsent))
				wantError(t, "Open with bit "+strconv.Itoa(i)+" of the sum turned", b, e, api.ErrSum)
			}
			for _, x := range []uint64{0xffffff, 0x5d6dcb, 0x800001, 0x123456} {
				b, e := crc.Open(made(s+digits(own^x, 24)), made(unsent))
				wantError(t, "Open with another sum", b, e, api.ErrSum)
			}
		}
	}
	b, e := crc.Open(made(strings.Repeat("1", 24)), api.Bits{})
	wantError(t, "Open of 24 bits whose sum should be 0", b, e, api.ErrSum)
	b, e = crc.Open(made(strings.Repeat("0", 25)), made("1"))
	wantError(t, "Open without the sum of what is not sent", b, e, api.ErrSum)
}

func TestWhatIsNotSentComesFirst(t *testing.T) {
	s, unsent := row(30, 1), row(17, 2)
	behind := s + digits(uint64(wantedSum(s+unsent)), 24)
	if behind == sealed(s, unsent) {
		t.Fatal("both orders have one sum: other bits are needed")
	}
	b, e := crc.Open(made(behind), made(unsent))
	wantError(t, "Open of a sum over what is not sent behind what is", b, e, api.ErrSum)
	b, e = crc.Seal(made(s), made(unsent))
	want(t, "Seal", b, e, sealed(s, unsent))
}

func TestSealAndOpenRefuseBits(t *testing.T) {
	good := made(row(40, 1))
	full := made(row(api.MaxBits, 2))
	for _, bad := range refused() {
		for _, p := range [][2]api.Bits{{bad, good}, {good, bad}, {bad, bad}, {bad, {}}, {{}, bad}, {full, bad}, {bad, full}} {
			b, e := crc.Seal(p[0], p[1])
			wantError(t, "Seal", b, e, api.ErrBits)
			b, e = crc.Open(p[0], p[1])
			wantError(t, "Open", b, e, api.ErrBits)
		}
	}
}

// P2.3

// burst turns digits as Burst should turn bits.
func burst(s string, at int, pattern uint32) string {
	l := []byte(s)
	for i := range 32 {
		if pattern&(1<<i) != 0 && at+i < len(l) {
			l[at+i] ^= 1
		}
	}
	return string(l)
}

func patterns() []uint32 {
	l := []uint32{0, math.MaxUint32, 0x80000001, 0x800005, 0xffffff, 0xff000000, 0xa5c31b07, 0x55555555}
	for i := range 32 {
		l = append(l, 1<<i)
	}
	return l
}

func TestBurst(t *testing.T) {
	for _, n := range []int{0, 1, 2, 7, 8, 9, 31, 32, 33, 40, 64, 75} {
		s := row(n, uint32(n))
		for at := range n + 1 {
			for _, p := range patterns() {
				b, e := crc.Burst(made(s), at, p)
				want(t, "Burst at "+strconv.Itoa(at)+" of "+strconv.Itoa(n), b, e, burst(s, at, p))
			}
		}
	}
	s := row(api.MaxBits, 1)
	for _, at := range []int{0, 1, 2048, 4063, 4064, 4065, 4095, 4096} {
		for _, p := range patterns() {
			b, e := crc.Burst(made(s), at, p)
			want(t, "Burst at "+strconv.Itoa(at)+" of the longest", b, e, burst(s, at, p))
		}
	}
	b, e := crc.Burst(made("10110"), 1, 0b1011)
	want(t, "Burst(1, 1011)", b, e, "11011")
}

func TestBurstBehindTheEnd(t *testing.T) {
	for _, n := range []int{0, 1, 8, 20, 31} {
		s := row(n, 3)
		for at := range n + 1 {
			b, e := crc.Burst(made(s), at, math.MaxUint32<<(n-at))
			want(t, "Burst of what lies behind the end", b, e, s)
		}
		b, e := crc.Burst(made(s), n, math.MaxUint32)
		want(t, "Burst at the end", b, e, s)
	}
	for _, none := range empties() {
		b, e := crc.Burst(none, 0, math.MaxUint32)
		want(t, "Burst of nothing", b, e, "")
	}
}

func TestBurstRefuses(t *testing.T) {
	for _, s := range []string{"", "1", row(31, 1), row(32, 2), row(api.MaxBits, 3)} {
		n := len(s)
		for _, at := range []int{-1, -2, -31, -32, -33, math.MinInt, math.MinInt + 31, n + 1, n + 2, n + 32, api.MaxBits + 1, math.MaxInt, math.MaxInt - 1, math.MaxInt - 31} {
			for _, p := range patterns() {
				b, e := crc.Burst(made(s), at, p)
				wantError(t, "Burst at "+strconv.Itoa(at)+" of "+strconv.Itoa(n), b, e, api.ErrArg)
			}
		}
	}
	for _, bad := range refused() {
		for _, p := range patterns() {
			b, e := crc.Burst(bad, 0, p)
			wantError(t, "Burst of refused bits", b, e, api.ErrBits)
		}
	}
}

// Several errors at once

func TestTheErrorNamedFirst(t *testing.T) {
	full := made(row(api.MaxBits, 1))
	for _, bad := range refused() {
		b, e := crc.Seal(full, bad)
		wantError(t, "Seal: ErrBits ahead of ErrLong", b, e, api.ErrBits)
		for _, short := range []string{"", "1", row(23, 1)} {
			b, e = crc.Open(made(short), bad)
			wantError(t, "Open: ErrBits ahead of ErrShort", b, e, api.ErrBits)
		}
		b, e = crc.Open(made(row(24, 2)), bad)
		wantError(t, "Open: ErrBits ahead of ErrSum", b, e, api.ErrBits)
		for _, at := range []int{-1, math.MinInt, api.MaxBits + 1, math.MaxInt} {
			b, e = crc.Burst(bad, at, math.MaxUint32)
			wantError(t, "Burst: ErrBits ahead of ErrArg", b, e, api.ErrBits)
		}
	}
	b, e := crc.Open(made(strings.Repeat("1", 23)), made("1"))
	wantError(t, "Open: ErrShort ahead of ErrSum", b, e, api.ErrShort)
}

// P2.4

func TestOpenOfSeal(t *testing.T) {
	for i, s := range rows() {
		if len(s) > api.MaxBits-24 {
			continue
		}
		for _, n := range []int{0, 1, 3, 24, 25, 100, 4096} {
			unsent := made(row(n, uint32(i)))
			x, e := crc.Seal(made(s), unsent)
			if e != api.OK || bits.Check(x) != api.OK {
				t.Fatalf("Seal of %d bits: error %d", len(s), e)
			}
			b, e := crc.Open(x, unsent)
			want(t, "Open of Seal", b, e, s)
		}
	}
}

// P2.5

// spans are patterns within 24 bits: all within 9, and many that reach from the first to the 24th.
func spans() []uint32 {
	var l []uint32
	for p := uint32(1); p < 1<<9; p++ {
		l = append(l, p)
	}
	for i := range uint32(200) {
		p, _ := strconv.ParseUint(row(22, i), 2, 32)
		l = append(l, 0x800001|uint32(p)<<1)
	}
	return append(l, 0x800001, 0xffffff, 0x7fffff, 0xd3b6ba, 0xbadb96, 0x5d6dcb, 0x800000)
}

func TestABurstIsTold(t *testing.T) {
	for _, n := range []int{0, 1, 24, 37} {
		for _, u := range []int{0, 24} {
			unsent := made(row(u, 7))
			x, _ := crc.Seal(made(row(n, uint32(n))), unsent)
			for at := range x.N {
				for _, p := range spans() {
					if p<<(32-min(32, x.N-at)) == 0 {
						continue // all of it lies behind the end
					}
					y, _ := crc.Burst(x, at, p)
					b, e := crc.Open(y, unsent)
					wantError(t, "Open behind a burst at "+strconv.Itoa(at)+" of "+strconv.Itoa(x.N), b, e, api.ErrSum)
				}
			}
		}
	}
}

func TestABurstIsToldInTheLongest(t *testing.T) {
	unsent := made(row(24, 1))
	x, _ := crc.Seal(made(row(4072, 2)), unsent)
	for at := 0; at < x.N; at += 61 {
		for _, width := range []int{1, 2, 12, 23, 24} {
			var places []int
			for i := range min(width, x.N-at) {
				if i == 0 || i == width-1 || (at+i)%3 == 0 {
					places = append(places, at+i)
				}
			}
			y, _ := bits.Flip(x, places...)
			b, e := crc.Open(y, unsent)
			wantError(t, "Open behind a burst in the longest", b, e, api.ErrSum)
		}
	}
}

// P2.6

func TestWhatIsNotSentIsTold(t *testing.T) {
	for _, n := range []int{0, 1, 17, 96, 4072} {
		s := made(row(n, uint32(n)))
		for u := 1; u <= 24; u++ {
			unsent := row(u, uint32(u))
			x, _ := crc.Seal(s, made(unsent))
			for _, other := range others(unsent) {
				b, e := crc.Open(x, made(other))
				wantError(t, "Open with "+other+" for "+unsent, b, e, api.ErrSum)
			}
		}
	}
}

// others are digits as many as those, but not the same: all of them if there are few, else those of a turned bit and some of many.
func others(s string) []string {
	var l []string
	if len(s) <= 6 {
		for v := range uint64(1) << len(s) {
			l = append(l, digits(v, len(s)))
		}
	}
	for i := range len(s) {
		l = append(l, burst(s, i, 1), burst(s, i, math.MaxUint32))
	}
	for i := range uint32(20) {
		l = append(l, row(len(s), 1000+i))
	}
	return slices.DeleteFunc(l, func(other string) bool { return other == s })
}

// P2.7

func xor(a, b string) string {
	l := []byte(a)
	for i := range l {
		l[i] ^= b[i] - '0'
	}
	return string(l)
}

func TestLinear(t *testing.T) {
	for n := range 200 {
		linear(t, row(n, uint32(n)), row(n, uint32(n+1000)))
	}
	for _, n := range []int{4072, 4093, 4094, 4095, 4096} {
		linear(t, row(n, 1), row(n, 2))
		linear(t, row(n, 3), strings.Repeat("1", n))
	}
	for v := range uint64(32) {
		for w := range uint64(32) {
			linear(t, digits(v, 5), digits(w, 5))
		}
	}
}

func linear(t *testing.T, a, b string) {
	t.Helper()
	x, _ := crc.Sum(made(a))
	y, _ := crc.Sum(made(b))
	wantSum(t, "Sum of the xor of "+strconv.Itoa(len(a))+" bits", x^y, made(xor(a, b)))
}

// R3

// roomy are bits whose bytes have room behind them, all of it 1; and all of that memory.
func roomy(digits string) (api.Bits, []byte) {
	b := made(digits)
	whole := append(slices.Clone(b.B), 255, 255, 255, 255, 255, 255, 255, 255, 255)
	return api.Bits{N: b.N, B: whole[:len(b.B)]}, whole
}

// bitCalls are all calls that answer bits, of bits and of what is not sent.
func bitCalls() map[string]func(b, unsent api.Bits) (api.Bits, api.Errno) {
	return map[string]func(b, unsent api.Bits) (api.Bits, api.Errno){
		"Seal":              crc.Seal,
		"Open":              crc.Open,
		"Open, refused":     func(b, _ api.Bits) (api.Bits, api.Errno) { return crc.Open(b, b) },
		"Burst":             func(b, _ api.Bits) (api.Bits, api.Errno) { return crc.Burst(b, 1, 0xffff) },
		"Burst of 0":        func(b, _ api.Bits) (api.Bits, api.Errno) { return crc.Burst(b, 0, 0) },
		"Burst at the end":  func(b, _ api.Bits) (api.Bits, api.Errno) { return crc.Burst(b, b.N, math.MaxUint32) },
		"Burst, refused":    func(b, _ api.Bits) (api.Bits, api.Errno) { return crc.Burst(b, b.N+1, 1) },
		"Burst, not a byte": func(b, _ api.Bits) (api.Bits, api.Errno) { return crc.Burst(b, 0, 0x80000001) },
	}
}

func TestAnswersHaveTheirOwnMemory(t *testing.T) {
	for _, s := range []string{"1", "1011001", "10110011", "101100110", row(64, 1), row(100, 2)} {
		for name, call := range bitCalls() {
			unsent, unsentWhole := roomy(row(24, 3))
			b, whole := roomy(sealed(s, row(24, 3)))
			was, unsentWas := slices.Clone(whole), slices.Clone(unsentWhole)
			first, e := call(b, unsent)
			second, _ := call(b, unsent)
			kept := slices.Clone(second.B)
			if !slices.Equal(whole, was) || !slices.Equal(unsentWhole, unsentWas) {
				t.Errorf("%s of %d bits changed what was handed in", name, len(s))
			}
			spoil(first.B[:cap(first.B)])
			if !slices.Equal(whole, was) || !slices.Equal(unsentWhole, unsentWas) || !slices.Equal(second.B, kept) {
				t.Errorf("%s of %d bits: its answer shares memory (error %d)", name, len(s), e)
			}
			spoil(whole)
			spoil(unsentWhole)
			if !slices.Equal(second.B, kept) {
				t.Errorf("%s of %d bits keeps what was handed in (error %d)", name, len(s), e)
			}
		}
	}
}

func spoil(l []byte) {
	for i := range l {
		l[i] ^= 0xff
	}
}

func TestSumChangesNothing(t *testing.T) {
	parts := []string{"1", "", row(9, 1), row(16, 2), row(100, 3)}
	l := madeAll(parts)
	b, whole := roomy(row(21, 4))
	was := slices.Clone(whole)
	l = append(l, b)
	wanted := wantedSum(strings.Join(parts, "") + row(21, 4))
	wantSum(t, "Sum", wanted, l...)
	wantSum(t, "Sum once more", wanted, l...)
	if !slices.Equal(whole, was) || !slices.EqualFunc(l[:len(parts)], madeAll(parts), equal) {
		t.Error("bits that were handed to Sum are other ones")
	}
}

// P1

// TestEveryCallAnswers goes through bits and numbers of all kinds together: a panic ends it.
func TestEveryCallAnswers(t *testing.T) {
	l := append(refused(), empties()...)
	for _, s := range []string{"0", "1", "1011001", row(23, 1), row(24, 2), row(25, 3), sealed("1", ""), row(4072, 4), row(4073, 5), row(api.MaxBits, 6)} {
		l = append(l, made(s))
	}
	places := []int{math.MinInt, math.MinInt + 1, -33, -32, -1, 0, 1, 24, 32, api.MaxBits - 1, api.MaxBits, api.MaxBits + 1, math.MaxInt - 32, math.MaxInt - 1, math.MaxInt}
	check := func(what string, b api.Bits, e api.Errno) {
		t.Helper()
		if e != api.OK && (b.N != 0 || len(b.B) != 0) {
			t.Errorf("%s beside error %d: %d bits", what, e, b.N)
		}
		if e == api.OK && bits.Check(b) != api.OK {
			t.Errorf("%s: %d bits %x may not be", what, b.N, b.B)
		}
	}
	for _, a := range l {
		for _, at := range places {
			for _, p := range []uint32{0, 1, 0x80000000, math.MaxUint32} {
				b, e := crc.Burst(a, at, p)
				check("Burst", b, e)
			}
		}
		for _, u := range l {
			b, e := crc.Seal(a, u)
			check("Seal", b, e)
			b, e = crc.Open(a, u)
			check("Open", b, e)
			if sum, e := crc.Sum(a, u); e != api.OK && sum != 0 || sum > 0xffffff {
				t.Errorf("Sum: %x, error %d", sum, e)
			}
		}
	}
}
