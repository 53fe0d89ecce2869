package signal_test

import (
	"math"
	"slices"
	"testing"

	"metronome/api"
	"metronome/bits"
	"metronome/phasor"
	"metronome/signal"
)

const (
	lastTick  = 1_099_511_627_776 // MaxTick, as the document writes it: 2^40
	mostBits  = 4_095             // bits of a signal, at most
	mostPower = 200               // how strong one is, at most
)

// Spans, bits and signals.

// span is short for a span.
func span(from, to int64) api.Span { return api.Span{From: from, To: to} }

// patterned are n bits, of which no two numbers have the same.
func patterned(n int) api.Bits {
	b := api.Bits{N: n, B: make([]byte, (n+7)/8)}
	for i := range n {
		if i*i%7 < 3 || i == n-1 {
			b.B[i/8] |= 1 << (7 - i%8)
		}
	}
	return b
}

// airOf is how long n bits are on the air: 8 and 6 samples, and one for each two bits.
func airOf(n int) int64 { return int64(8 + 6 + (n+1)/2) }

// counts are some numbers of bits that a whole signal may have.
func counts() []int { return []int{1, 2, 3, 7, 8, 9, 20, 64, 1000, mostBits - 1, mostBits} }

// signalOf is a whole signal, put together by hand.
func signalOf(from int, at int64, level, n int) api.Signal {
	return api.Signal{From: from, Span: span(at, at+airOf(n)), Level: level, B: patterned(n)}
}

// noiseOf is a signal of no bits.
func noiseOf(from int, s api.Span, level int) api.Signal {
	return api.Signal{From: from, Span: s, Level: level}
}

// noSpans are spans that may not be.
func noSpans() []api.Span {
	l := []api.Span{
		span(1, 0), span(5, 4), span(60, 40), span(lastTick, 0), span(lastTick, lastTick-1),
		span(math.MinInt64, math.MaxInt64), span(math.MaxInt64, math.MinInt64), span(-5, lastTick+5),
	}
	for _, t := range []int64{math.MinInt64, -lastTick, -2, -1, lastTick + 1, 2 * lastTick, math.MaxInt64} {
		l = append(l, span(t, t), span(t, 10), span(10, t), span(0, t), span(t, lastTick))
	}
	return slices.DeleteFunc(l, func(s api.Span) bool { return 0 <= s.From && s.From <= s.To && s.To <= lastTick })
}

// noBits are bits that may not be, each in another way.
func noBits() []api.Bits {
	return []api.Bits{
		{N: math.MinInt}, {N: -1}, {N: -8, B: []byte{0}}, {N: 1}, {N: 9, B: []byte{0}}, {N: 8, B: []byte{0, 0}},
		{N: 0, B: []byte{0}}, {N: 1, B: []byte{0x40}}, {N: 9, B: []byte{0, 0x01}}, {N: 20, B: []byte{1, 2, 3}},
		{N: 4097, B: make([]byte, 513)}, {N: math.MaxInt}, {N: math.MaxInt, B: []byte{0}},
	}
}

// noSignal is a signal that may not be, and why.
type noSignal struct {
	what string
	s    api.Signal
}

// noSignals are signals that may not be, each by one thing; all are strong, and those that have a span that may be meet 50 to 74.
func noSignals() []noSignal {
	var l []noSignal
	add := func(what string, change func(*api.Signal)) {
		s := signalOf(0, 50, 100, 20)
		change(&s)
		l = append(l, noSignal{what, s})
	}
	for _, from := range []int{math.MinInt, -3, -2, 8, 9, math.MaxInt} {
		add("From", func(s *api.Signal) { s.From = from })
	}
	for _, x := range noSpans() {
		add("Span", func(s *api.Signal) { s.Span = x })
	}
	for _, level := range []int{math.MinInt, -100, -1, mostPower + 1, 256, math.MaxInt} {
		add("Level", func(s *api.Signal) { s.Level = level })
	}
	for _, b := range noBits() {
		add("B", func(s *api.Signal) { s.B = b })
	}
	add("all", func(s *api.Signal) { *s = api.Signal{From: -2, Span: span(5, 4), Level: 201, B: api.Bits{N: 1}} })
	return l
}

// mayBe is whether a signal may be, as the chapter says it.
func mayBe(s api.Signal) bool {
	return -1 <= s.From && s.From <= 7 && isSpan(s.Span) && 0 <= s.Level && s.Level <= mostPower && bits.Check(s.B) == api.OK
}

func isSpan(s api.Span) bool { return 0 <= s.From && s.From <= s.To && s.To <= lastTick }

// isWhole is whether a signal is whole, as the chapter says it.
func isWhole(s api.Signal) bool {
	return mayBe(s) && 1 <= s.B.N && s.B.N <= mostBits && s.Span.To == s.Span.From+airOf(s.B.N)
}

// meet is whether two spans that may be have a moment in common: of the greater From, as of no other one, both must have it then.
func meet(a, b api.Span) bool {
	t := max(a.From, b.From)
	return isSpan(a) && isSpan(b) && a.From <= t && t < a.To && b.From <= t && t < b.To
}

// heardOf are the numbers that Heard must tell, as the chapter says it.
func heardOf(l []api.Signal, in api.Span, threshold int) []int {
	var numbers []int
	for i, s := range l {
		if mayBe(s) && s.Level >= threshold && s.Level >= 1 && meet(s.Span, in) {
			numbers = append(numbers, i)
		}
	}
	return numbers
}

// seenOf is what Judge must tell, as the chapter says it.
func seenOf(l []api.Signal, slot, window api.Span, threshold int) api.Seen {
	numbers := heardOf(l, slot, threshold)
	if len(numbers) == 0 {
		return api.Seen{}
	}
	s := l[numbers[0]]
	within := isSpan(slot) && slot.From <= s.Span.From && s.Span.To <= slot.To
	begins := isSpan(window) && window.From <= s.Span.From && s.Span.From < window.To
	if len(numbers) > 1 || !isWhole(s) || !within || !begins {
		return api.Seen{Kind: api.SnNoise}
	}
	return api.Seen{Kind: api.SnFrame, At: s.Span.From, B: s.B}
}

// thresholds are the ends of what there is, and those around a level.
func thresholds(level int) []int {
	return []int{math.MinInt, math.MinInt32, -201, -1, 0, 1, level - 1, level, level + 1, mostPower, mostPower + 1, math.MaxInt32, math.MaxInt}
}

func heard(l []api.Signal, in api.Span, threshold int) []int {
	return slices.Collect(signal.Heard(l, in, threshold))
}

func same(a, b api.Signal) bool {
	return a.From == b.From && a.Span == b.Span && a.Level == b.Level && bits.Same(a.B, b.B)
}

func sameSeen(a, b api.Seen) bool {
	return a.Kind == b.Kind && a.At == b.At && bits.Same(a.B, b.B)
}

func wantCheck(t *testing.T, what string, s api.Signal, want api.Errno) {
	t.Helper()
	if e := signal.Check(s); e != want {
		t.Errorf("Check of %s, %+v: %d; want %d", what, s, e, want)
	}
}

func wantWhole(t *testing.T, what string, s api.Signal, want bool) {
	t.Helper()
	if is := signal.Whole(s); is != want {
		t.Errorf("Whole of %s, from %d, %+v, of %d bits: %t", what, s.From, s.Span, s.B.N, is)
	}
}

func wantMade(t *testing.T, from int, at int64, level int, b api.Bits, want api.Signal) {
	t.Helper()
	if s, e := signal.Make(from, at, level, b); e != api.OK || !same(s, want) {
		t.Errorf("Make(%d, %d, %d, %d bits): %+v, %d; want %+v", from, at, level, b.N, s, e, want)
	}
}

func wantNotMade(t *testing.T, from int, at int64, level int, b api.Bits) {
	t.Helper()
	s, e := signal.Make(from, at, level, b)
	if e != api.ErrSignal || s.From != 0 || s.Span != (api.Span{}) || s.Level != 0 || s.B.N != 0 || len(s.B.B) != 0 {
		t.Errorf("Make(%d, %d, %d, %d bits): %+v, %d; want nothing, 110", from, at, level, b.N, s, e)
	}
}

func wantHeard(t *testing.T, l []api.Signal, in api.Span, threshold int, want ...int) {
	t.Helper()
	if got := heard(l, in, threshold); !slices.Equal(got, want) {
		t.Errorf("Heard(%+v, %+v, %d): %v; want %v", l, in, threshold, got, want)
	}
}

func wantBusy(t *testing.T, l []api.Signal, threshold int, want ...api.Span) {
	t.Helper()
	if got := signal.Busy(l, threshold); !slices.Equal(got, want) {
		t.Errorf("Busy(%+v, %d): %+v; want %+v", l, threshold, got, want)
	}
}

func wantSeen(t *testing.T, l []api.Signal, slot, window api.Span, threshold int, want api.Seen) {
	t.Helper()
	if got := signal.Judge(l, slot, window, threshold); !sameSeen(got, want) {
		t.Errorf("Judge(%+v, %+v, %+v, %d): %+v; want %+v", l, slot, window, threshold, got, want)
	}
}

// P11.1: Check

func TestNumbersAreTheDocuments(t *testing.T) {
	if api.ErrSignal != 110 || api.SnNone != 0 || api.SnNoise != 1 || api.SnFrame != 2 || api.MaxPower != 200 || api.Power != 100 {
		t.Error("a number is not the document's")
	}
}

func TestCheckTakesAllThatMayBe(t *testing.T) {
	for from := -1; from <= 7; from++ {
		for _, x := range []api.Span{span(0, 0), span(0, 1), span(7, 7), span(7, 90), span(0, lastTick), span(lastTick-1, lastTick), span(lastTick, lastTick)} {
			for _, level := range []int{0, 1, 99, 100, 199, mostPower} {
				for _, n := range []int{0, 1, 8, 9, mostBits, mostBits + 1} {
					wantCheck(t, "one that may be", api.Signal{From: from, Span: x, Level: level, B: patterned(n)}, api.OK)
				}
			}
		}
	}
	wantCheck(t, "nothing", api.Signal{}, api.OK)
	wantCheck(t, "empty bytes", api.Signal{B: api.Bits{B: []byte{}}}, api.OK)
}

func TestCheckRefusesAllElse(t *testing.T) {
	for _, x := range noSignals() {
		wantCheck(t, x.what, x.s, api.ErrSignal)
	}
}

func TestCheckByTheEdges(t *testing.T) {
	for from := -12; from <= 20; from++ {
		s := signalOf(from, 50, 100, 20)
		if (signal.Check(s) == api.OK) != (from >= -1 && from < 8) {
			t.Errorf("Check of one from %d: %d", from, signal.Check(s))
		}
	}
	for level := -300; level <= 300; level++ {
		s := signalOf(3, 50, level, 20)
		if (signal.Check(s) == api.OK) != (level >= 0 && level <= 200) {
			t.Errorf("Check of one of %d: %d", level, signal.Check(s))
		}
	}
}

// P11.1: Whole

func TestWholeOfAllLengths(t *testing.T) {
	for n := 1; n <= mostBits; n++ {
		wantWhole(t, "as long as its bits", signalOf(2, 10, 100, n), true)
	}
	for _, level := range []int{0, 1, mostPower} {
		wantWhole(t, "any strength", signalOf(-1, 0, level, 9), true)
	}
	wantWhole(t, "one that ends at the last moment", signalOf(7, lastTick-airOf(9), 100, 9), true)
}

func TestWholeByItsLength(t *testing.T) {
	for _, n := range counts() {
		for _, by := range []int64{-2, -1, 0, 1, 2} {
			s := signalOf(0, 10, 100, n)
			s.Span.To += by
			wantWhole(t, "another To", s, by == 0)
			s = signalOf(0, 10, 100, n)
			s.Span.From += by
			wantWhole(t, "another From", s, by == 0)
		}
		s := signalOf(0, 10, 100, n)
		s.Span.To = s.Span.From
		wantWhole(t, "an empty span", s, false)
	}
}

func TestWholeHasFromOneBitToMaxPay(t *testing.T) {
	for _, length := range []int64{0, 1, 13, 14, 15, airOf(mostBits), airOf(mostBits) + 1, airOf(mostBits) + 2} {
		wantWhole(t, "no bits", api.Signal{Span: span(10, 10+length), Level: 100}, false)
		wantWhole(t, "a bit more than MaxPay", api.Signal{Span: span(10, 10+length), Level: 100, B: patterned(mostBits + 1)}, false)
	}
	wantWhole(t, "one bit", signalOf(0, 10, 100, 1), true)
	wantWhole(t, "MaxPay bits", signalOf(0, 10, 100, mostBits), true)
	wantWhole(t, "nothing", api.Signal{}, false)
}

func TestWholeRefusesWhatCheckRefuses(t *testing.T) {
	for _, x := range noSignals() {
		wantWhole(t, x.what, x.s, false)
	}
	wantWhole(t, "one that begins ahead of 0", signalOf(0, -1, 100, 9), false)
	wantWhole(t, "one that ends behind the last moment", signalOf(0, lastTick-airOf(9)+1, 100, 9), false)
	// Far beyond the last moment the length may still be right by a wrap-round.
	s := signalOf(0, 0, 100, 9)
	s.Span = span(math.MaxInt64-9, math.MinInt64+airOf(9)-10)
	wantWhole(t, "one whose end is wrapped round", s, false)
}

// P11.1: Make

func TestMakeOfAllLengths(t *testing.T) {
	for n := 1; n <= mostBits; n++ {
		b := patterned(n)
		wantMade(t, 4, 1000, 100, b, api.Signal{From: 4, Span: span(1000, 1000+airOf(n)), Level: 100, B: b})
	}
}

func TestMakeByHand(t *testing.T) {
	b, _ := bits.Parse("110100101")
	wantMade(t, 3, 100, 80, b, api.Signal{From: 3, Span: span(100, 119), Level: 80, B: b})
	one, _ := bits.Parse("1")
	wantMade(t, -1, 0, 0, one, api.Signal{From: -1, Span: span(0, 15), B: one})
	wantMade(t, 7, lastTick-15, 200, one, api.Signal{From: 7, Span: span(lastTick-15, lastTick), Level: 200, B: one})
	most := patterned(mostBits)
	wantMade(t, 0, 5, 1, most, api.Signal{Span: span(5, 2067), Level: 1, B: most})
	wantNotMade(t, 8, 0, 1, one)
	wantNotMade(t, 0, lastTick-14, 1, one)
}

func TestMakeIsAsLongAsItsSamples(t *testing.T) {
	for _, n := range counts() {
		l, e := phasor.Encode(patterned(n), 1)
		s, f := signal.Make(0, 10, 1, patterned(n))
		if e != api.OK || f != api.OK || s.Span.To-s.Span.From != int64(len(l)) {
			t.Errorf("Make of %d bits: %+v, %d; of %d samples, %d", n, s.Span, f, len(l), e)
		}
	}
}

func TestMakeByTheEdges(t *testing.T) {
	for _, from := range []int{math.MinInt, -2, -1, 0, 1, 6, 7, 8, math.MaxInt} {
		for _, level := range []int{math.MinInt, -1, 0, 1, 100, 199, 200, 201, math.MaxInt} {
			for _, n := range []int{0, 1, 2, 9, mostBits, mostBits + 1} {
				last := lastTick - airOf(n)
				for _, at := range []int64{math.MinInt64, -lastTick, -airOf(n), -1, 0, 1, last - 1, last, last + 1, lastTick, lastTick + 1, math.MaxInt64 - 14, math.MaxInt64} {
					s := signalOf(from, at, level, n)
					if isWhole(s) {
						wantMade(t, from, at, level, patterned(n), s)
					} else {
						wantNotMade(t, from, at, level, patterned(n))
					}
				}
			}
		}
	}
}

func TestMakeRefusesBits(t *testing.T) {
	for _, b := range append(noBits(), api.Bits{}, api.Bits{B: []byte{}}, patterned(mostBits+1)) {
		for _, at := range []int64{-1, 0, 50, lastTick, math.MaxInt64} {
			for _, from := range []int{-2, -1, 0, 8} {
				wantNotMade(t, from, at, 100, b)
			}
		}
	}
}

func TestWhatIsMadeIsWhole(t *testing.T) {
	for from := -1; from <= 7; from++ {
		for _, n := range counts() {
			s, e := signal.Make(from, int64(n), 10*(from+1), patterned(n))
			if e != api.OK || signal.Check(s) != api.OK || !signal.Whole(s) {
				t.Errorf("Make of %d bits from %d: %+v, %d", n, from, s.Span, e)
			}
		}
	}
}

// P11.2: Heard

func TestHeardByHand(t *testing.T) {
	l := []api.Signal{
		noiseOf(2, span(10, 20), 50),
		noiseOf(-1, span(0, 100), 0),
		signalOf(0, 15, 100, 2),
		noiseOf(2, span(12, 12), 200),
		noiseOf(9, span(10, 20), 200),
		noiseOf(7, span(19, 40), 200),
		noiseOf(1, span(0, lastTick), 1),
	}
	wantHeard(t, l, span(10, 20), 50, 0, 2, 5)
	wantHeard(t, l, span(10, 20), 0, 0, 2, 5, 6)
	wantHeard(t, l, span(10, 19), 50, 0, 2)
	wantHeard(t, l, span(10, 15), 51)
	wantHeard(t, l, span(0, 10), 50)
	wantHeard(t, l, span(0, 11), 50, 0)
	wantHeard(t, l, span(40, 41), 1, 6)
	wantHeard(t, l, span(39, 40), 101, 5)
	wantHeard(t, l, span(12, 12), 0)
	wantHeard(t, l, span(0, 100), 201)
	wantHeard(t, nil, span(0, 100), 0)
	wantHeard(t, []api.Signal{}, span(0, 100), 0)
	wantHeard(t, []api.Signal{{}}, span(0, 100), 0)
}

func TestHeardByTheThreshold(t *testing.T) {
	for level := 0; level <= mostPower; level++ {
		l := []api.Signal{noiseOf(0, span(10, 20), level)}
		for _, threshold := range thresholds(level) {
			if level >= 1 && level >= threshold {
				wantHeard(t, l, span(15, 16), threshold, 0)
			} else {
				wantHeard(t, l, span(15, 16), threshold)
			}
		}
	}
}

func TestHeardWhereItMeets(t *testing.T) {
	in := span(20, 30)
	for from := int64(10); from <= 40; from++ {
		for to := from; to <= 40; to++ {
			both := false
			for at := from; at < to; at++ {
				both = both || at >= 20 && at < 30
			}
			l := []api.Signal{noiseOf(0, span(from, to), 100)}
			if both {
				wantHeard(t, l, in, 100, 0)
			} else {
				wantHeard(t, l, in, 100)
			}
		}
	}
}

func TestHeardWhereItTouches(t *testing.T) {
	l := []api.Signal{noiseOf(0, span(10, 20), 100), signalOf(1, 30, 100, 2)}
	wantHeard(t, l, span(20, 30), 1)
	wantHeard(t, l, span(19, 30), 1, 0)
	wantHeard(t, l, span(20, 31), 1, 1)
	wantHeard(t, l, span(0, 10), 1)
	wantHeard(t, l, span(0, 11), 1, 0)
	wantHeard(t, l, span(45, lastTick), 1)
	wantHeard(t, l, span(44, lastTick), 1, 1)
	l = []api.Signal{noiseOf(0, span(0, 1), 100), noiseOf(0, span(lastTick-1, lastTick), 100), noiseOf(0, span(lastTick, lastTick), 100)}
	wantHeard(t, l, span(0, lastTick), 1, 0, 1)
	wantHeard(t, l, span(0, 1), 1, 0)
	wantHeard(t, l, span(1, lastTick-1), 1)
	wantHeard(t, l, span(lastTick-1, lastTick), 1, 1)
	wantHeard(t, l, span(lastTick, lastTick), 1)
}

func TestHeardLeavesOutWhatMayNotBe(t *testing.T) {
	good := signalOf(1, 50, 100, 20)
	for _, x := range noSignals() {
		for _, threshold := range []int{math.MinInt, 0, 1, 100} {
			wantHeard(t, []api.Signal{x.s}, span(0, lastTick), threshold)
			wantHeard(t, []api.Signal{x.s, good, x.s, good}, span(0, lastTick), threshold, 1, 3)
		}
	}
}

func TestHeardInNoSpan(t *testing.T) {
	l := []api.Signal{signalOf(1, 50, 100, 20), noiseOf(2, span(0, lastTick), 100)}
	for _, in := range append(noSpans(), span(0, 0), span(60, 60), span(lastTick, lastTick)) {
		wantHeard(t, l, in, 1)
	}
}

func TestHeardOfManyLists(t *testing.T) {
	everyList(func(l []api.Signal, slot api.Span, threshold int) {
		wantHeard(t, l, slot, threshold, heardOf(l, slot, threshold)...)
	})
}

func TestHeardAskedAgain(t *testing.T) {
	s := noiseOf(0, span(10, 20), 100)
	seq := signal.Heard([]api.Signal{s, {}, s, s}, span(0, 100), 1)
	for range 3 {
		if l := slices.Collect(seq); !slices.Equal(l, []int{0, 2, 3}) {
			t.Errorf("Heard again: %v", l)
		}
	}
	var pairs []int
	for a := range seq {
		for b := range seq {
			pairs = append(pairs, 10*a+b)
		}
	}
	if !slices.Equal(pairs, []int{0, 2, 3, 20, 22, 23, 30, 32, 33}) {
		t.Errorf("Heard within Heard: %v", pairs)
	}
}

func TestHeardLeftEarly(t *testing.T) {
	s := noiseOf(0, span(10, 20), 100)
	seq := signal.Heard([]api.Signal{{}, s, s, s}, span(0, 100), 1)
	for most := 1; most <= 3; most++ {
		var l []int
		seq(func(i int) bool {
			l = append(l, i)
			return len(l) < most
		})
		if !slices.Equal(l, []int{1, 2, 3}[:most]) {
			t.Errorf("Heard left behind %d: %v", most, l)
		}
	}
	if l := slices.Collect(seq); !slices.Equal(l, []int{1, 2, 3}) {
		t.Errorf("Heard behind one that was left early: %v", l)
	}
}

// P11.2: Busy

func TestBusyByHand(t *testing.T) {
	l := []api.Signal{
		noiseOf(2, span(60, 70), 100),
		signalOf(0, 100, 80, 9),
		noiseOf(1, span(110, 129), 40),
		noiseOf(3, span(10, 20), 50),
		noiseOf(3, span(20, 30), 50),
		noiseOf(-1, span(35, 35), 200),
		noiseOf(-1, span(0, 500), 0),
		noiseOf(8, span(0, 500), 200),
	}
	wantBusy(t, l, 30, span(10, 30), span(60, 70), span(100, 129))
	wantBusy(t, l, 40, span(10, 30), span(60, 70), span(100, 129))
	wantBusy(t, l, 41, span(10, 30), span(60, 70), span(100, 119))
	wantBusy(t, l, 51, span(60, 70), span(100, 119))
	wantBusy(t, l, 81, span(60, 70))
	wantBusy(t, l, 101)
	wantBusy(t, l, 0, span(10, 30), span(60, 70), span(100, 129))
	wantBusy(t, nil, 0)
	wantBusy(t, []api.Signal{{}}, 0)
	wantBusy(t, []api.Signal{noiseOf(0, span(0, lastTick), 1)}, math.MinInt, span(0, lastTick))
	wantBusy(t, []api.Signal{noiseOf(0, span(lastTick-1, lastTick), 1), noiseOf(0, span(0, 1), 1)}, 1, span(0, 1), span(lastTick-1, lastTick))
	wantBusy(t, []api.Signal{noiseOf(0, span(lastTick, lastTick), 1), noiseOf(0, span(0, 0), 1)}, 1)
}

func TestBusyByTheThreshold(t *testing.T) {
	for level := 0; level <= mostPower; level++ {
		l := []api.Signal{noiseOf(0, span(10, 20), level)}
		for _, threshold := range thresholds(level) {
			if level >= 1 && level >= threshold {
				wantBusy(t, l, threshold, span(10, 20))
			} else {
				wantBusy(t, l, threshold)
			}
		}
	}
}

func TestBusyLeavesOutWhatMayNotBe(t *testing.T) {
	good := noiseOf(1, span(52, 60), 100)
	for _, x := range noSignals() {
		for _, threshold := range []int{math.MinInt, 0, 1, 100} {
			wantBusy(t, []api.Signal{x.s}, threshold)
			wantBusy(t, []api.Signal{x.s, good, x.s}, threshold, span(52, 60))
		}
	}
}

// TestBusyMomentByMoment asks that Busy has just the moments in which something is heard, in spans that rise and do not touch.
func TestBusyMomentByMoment(t *testing.T) {
	everyList(func(l []api.Signal, _ api.Span, threshold int) {
		busy := signal.Busy(l, threshold)
		for i, s := range busy {
			if s.From >= s.To || i > 0 && s.From <= busy[i-1].To {
				t.Fatalf("Busy(%+v, %d): %+v", l, threshold, busy)
			}
		}
		for at := range int64(70) {
			is := slices.ContainsFunc(busy, func(s api.Span) bool { return s.From <= at && at < s.To })
			if want := len(heardOf(l, span(at, at+1), threshold)) > 0; is != want {
				t.Fatalf("Busy(%+v, %d): %+v; at %d want %t", l, threshold, busy, at, want)
			}
		}
	})
}

// everyList calls f with many lists of no, one and several signals between 0 and 70, spans, and thresholds.
func everyList(f func(l []api.Signal, in api.Span, threshold int)) {
	parts := []api.Signal{
		signalOf(0, 20, 100, 1), signalOf(1, 35, 60, 2), signalOf(2, 34, 50, 3), signalOf(3, 22, 49, 20),
		noiseOf(-1, span(10, 20), 60), noiseOf(7, span(30, 31), 1), noiseOf(4, span(0, 70), 0), noiseOf(5, span(25, 25), 200),
		noiseOf(6, span(46, 60), 200), noiseOf(8, span(20, 35), 100), {From: 2, Span: span(20, 35), Level: 100, B: api.Bits{N: 1}},
	}
	spans := []api.Span{span(0, 70), span(20, 35), span(20, 34), span(35, 50), span(31, 46), span(25, 25), span(60, 70), span(35, 20), span(-1, 70)}
	each := func(l ...api.Signal) {
		for _, in := range spans {
			for _, threshold := range []int{math.MinInt, -1, 0, 1, 2, 49, 50, 51, 60, 61, 100, 101, 201, math.MaxInt} {
				f(l, in, threshold)
			}
		}
	}
	each()
	for _, a := range parts {
		each(a)
		for _, b := range parts {
			each(a, b)
			for _, c := range parts {
				each(a, b, c)
			}
		}
	}
}
