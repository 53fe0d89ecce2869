package signal_test

import (
	"math"
	"slices"
	"testing"

	"metronome/api"
	"metronome/bits"
	"metronome/signal"
)

// P11.4: alone and clear

func TestAloneAndClearIsAFrame(t *testing.T) {
	for from := -1; from <= 7; from++ {
		for _, n := range counts() {
			for _, at := range []int64{0, 1, 5000, lastTick - airOf(n)} {
				for _, level := range []int{1, 50, mostPower} {
					s, e := signal.Make(from, at, level, patterned(n))
					if e != api.OK {
						t.Fatalf("Make(%d, %d, %d, %d bits): %d", from, at, level, n, e)
					}
					wantSeen(t, []api.Signal{s}, s.Span, span(at, at+1), level, frameOf(s))
					wantSeen(t, []api.Signal{s}, span(0, lastTick), span(0, lastTick), 1, frameOf(s))
				}
			}
		}
	}
}

// TestASecondOneThatIsHeardMakesItNoise lays a second one of each place and length beside a frame, ahead of it and behind it.
func TestASecondOneThatIsHeardMakesItNoise(t *testing.T) {
	s := signalOf(0, 20, 100, 1) // 20 to 35
	slot, window := span(10, 45), span(20, 21)
	for from := int64(0); from <= 50; from++ {
		for to := from; to <= 55; to++ {
			heard := false
			for at := from; at < to; at++ {
				heard = heard || at >= 10 && at < 45
			}
			want := frameOf(s)
			if heard {
				want = noise()
			}
			other := noiseOf(1, span(from, to), 60)
			wantSeen(t, []api.Signal{s, other}, slot, window, 60, want)
			wantSeen(t, []api.Signal{other, s}, slot, window, 60, want)
			wantSeen(t, []api.Signal{other, s}, slot, window, 61, frameOf(s))
		}
	}
}

// P11.5: by the threshold

func TestWhatIsHeardIsHeardWithAnyLowerThreshold(t *testing.T) {
	everyList(func(l []api.Signal, in api.Span, threshold int) {
		loud := heard(l, in, threshold)
		for _, lower := range []int{math.MinInt, -1, 0, 1, threshold / 2, threshold - 1} {
			if lower >= threshold {
				continue
			}
			low := heard(l, in, lower)
			for _, i := range loud {
				if !slices.Contains(low, i) {
					t.Fatalf("Heard(%+v, %+v, %d): %v; with %d: %v", l, in, threshold, loud, lower, low)
				}
			}
		}
	})
}

// P11.6: the weak count for nothing

// strong are the signals of a list that are not below the threshold.
func strong(l []api.Signal, threshold int) []api.Signal {
	return slices.DeleteFunc(slices.Clone(l), func(s api.Signal) bool { return s.Level < threshold })
}

func TestSignalsBelowTheThresholdChangeNothing(t *testing.T) {
	everyList(func(l []api.Signal, slot api.Span, threshold int) {
		window := span(20, 36)
		without := strong(l, threshold)
		wantSeen(t, l, slot, window, threshold, signal.Judge(without, slot, window, threshold))
		wantBusy(t, l, threshold, signal.Busy(without, threshold)...)
		var spans, others []api.Span
		for i := range signal.Heard(l, slot, threshold) {
			spans = append(spans, l[i].Span)
		}
		for i := range signal.Heard(without, slot, threshold) {
			others = append(others, without[i].Span)
		}
		if !slices.Equal(spans, others) {
			t.Fatalf("Heard(%+v, %+v, %d): %+v; without the weak ones %+v", l, slot, threshold, spans, others)
		}
	})
}

// P11.7: no moment of its own

func later(s api.Span, by int64) api.Span { return span(s.From+by, s.To+by) }

func allLater(l []api.Signal, by int64) []api.Signal {
	out := slices.Clone(l)
	for i := range out {
		out[i].Span = later(out[i].Span, by)
	}
	return out
}

// TestWhatIsSeenIsAsMuchLater leaves spans out that are refused where they stand, as they may be some that may be later on.
func TestWhatIsSeenIsAsMuchLater(t *testing.T) {
	window := span(20, 36)
	everyList(func(l []api.Signal, slot api.Span, threshold int) {
		if slot.From < 0 {
			return
		}
		seen := signal.Judge(l, slot, window, threshold)
		for _, by := range []int64{1, 1000, 1 << 33, lastTick / 2, lastTick - 70} {
			want := seen
			if want.Kind == api.SnFrame {
				want.At += by
			}
			moved := allLater(l, by)
			wantSeen(t, moved, later(slot, by), later(window, by), threshold, want)
			wantHeard(t, moved, later(slot, by), threshold, heard(l, slot, threshold)...)
			busy := signal.Busy(l, threshold)
			for i := range busy {
				busy[i] = later(busy[i], by)
			}
			wantBusy(t, moved, threshold, busy...)
		}
	})
}

// R3: nothing is changed, kept or shared

// roomy are bits whose bytes have room behind them, in which something stands.
func roomy(n int) (api.Bits, []byte) {
	b := patterned(n)
	room := append(slices.Clone(b.B), 0xa5, 0xa5, 0xa5, 0xa5)
	return api.Bits{N: n, B: room[:len(b.B)]}, room
}

func TestMakeSharesNothing(t *testing.T) {
	for _, n := range counts() {
		b, room := roomy(n)
		s, _ := signal.Make(0, 10, 100, b)
		o, _ := signal.Make(0, 10, 100, b)
		for i := range room {
			room[i] = ^room[i]
		}
		if !bits.Same(s.B, patterned(n)) {
			t.Errorf("Make of %d bits keeps what it was handed", n)
		}
		clear(room)
		clear(s.B.B)
		_ = append(s.B.B, 0xff)
		if !bits.Same(o.B, patterned(n)) {
			t.Errorf("two answers of Make of %d bits share their bytes", n)
		}
		if slices.Contains(room, 0xff) {
			t.Errorf("Make of %d bits shares the room behind what it was handed", n)
		}
	}
}

func TestJudgeSharesNothing(t *testing.T) {
	for _, n := range counts() {
		b, room := roomy(n)
		l := []api.Signal{{From: 1, Span: span(10, 10+airOf(n)), Level: 100, B: b}}
		slot, window := span(0, 5000), span(10, 11)
		x := signal.Judge(l, slot, window, 1)
		y := signal.Judge(l, slot, window, 1)
		for i := range room {
			room[i] = ^room[i]
		}
		if !sameSeen(x, api.Seen{Kind: api.SnFrame, At: 10, B: patterned(n)}) {
			t.Errorf("what is seen of %d bits is the list's own", n)
		}
		clear(room)
		clear(x.B.B)
		_ = append(x.B.B, 0xff)
		if !bits.Same(y.B, patterned(n)) {
			t.Errorf("two answers of Judge of %d bits share their bytes", n)
		}
		if slices.Contains(room, 0xff) {
			t.Errorf("Judge of %d bits shares the room behind the list's", n)
		}
	}
}

func TestBusySharesNothing(t *testing.T) {
	l := []api.Signal{noiseOf(0, span(10, 20), 100), noiseOf(0, span(30, 40), 100)}
	a, b := signal.Busy(l, 1), signal.Busy(l, 1)
	clear(a)
	_ = append(a, span(1, 2))
	if !slices.Equal(b, []api.Span{span(10, 20), span(30, 40)}) || l[0].Span != span(10, 20) || l[1].Span != span(30, 40) {
		t.Errorf("Busy shares its spans: %+v, %+v", b, l)
	}
}

// ownList is a list in memory of its own.
func ownList(l []api.Signal) []api.Signal {
	out := slices.Clone(l)
	for i := range out {
		out[i].B.B = slices.Clone(out[i].B.B)
	}
	return out
}

// oddList are signals that may be, in no order, and such as may not.
func oddList() []api.Signal {
	l := []api.Signal{signalOf(2, 70, 100, 9), noiseOf(1, span(60, 90), 40), signalOf(0, 50, 100, 20), noiseOf(-1, span(5, 5), 200), {}}
	for _, x := range noSignals() {
		l = append(l, x.s)
	}
	return append(l, signalOf(3, 0, 10, 1), noiseOf(1, span(60, 90), 40))
}

func TestNoCallChangesItsSignals(t *testing.T) {
	l := oddList()
	was := ownList(l)
	for _, threshold := range thresholds(100) {
		for _, in := range append(noSpans(), span(0, 100), span(60, 60), span(50, 74), span(0, lastTick)) {
			heard(l, in, threshold)
			signal.Judge(l, in, span(40, 60), threshold)
			signal.Judge(l[2:3], span(0, 100), in, threshold)
		}
		signal.Busy(l, threshold)
	}
	for _, s := range l {
		signal.Check(s)
		signal.Whole(s)
		signal.Make(s.From, s.Span.From, s.Level, s.B)
		signal.Same(api.Seen{B: s.B}, api.Seen{B: s.B})
	}
	if !slices.EqualFunc(l, was, same) {
		t.Errorf("the signals became %+v", l)
	}
}

func TestHeardTellsWhatWasThereWhenItWasAsked(t *testing.T) {
	list := func() []api.Signal {
		return []api.Signal{signalOf(0, 10, 100, 9), noiseOf(1, span(0, 5), 20), noiseOf(1, span(5, 20), 20), noiseOf(1, span(5, 20), 100)}
	}
	changes := []struct {
		what string
		do   func([]api.Signal)
	}{
		{"no signals", func(l []api.Signal) { clear(l) }},
		{"all of them strong", func(l []api.Signal) { l[2].Level = 200 }},
		{"all of them weak", func(l []api.Signal) { l[0].Level, l[3].Level = 0, 0 }},
		{"other spans", func(l []api.Signal) { l[0].Span, l[3].Span = span(0, 1), span(50, 51) }},
		{"nobody's", func(l []api.Signal) { l[0].From, l[3].From = -2, 8 }},
		{"other bits", func(l []api.Signal) { l[0].B.B[1] = 0xff }},
		{"another order", func(l []api.Signal) { slices.Reverse(l) }},
	}
	for _, x := range changes {
		l := list()
		seq := signal.Heard(l, span(8, 30), 50)
		x.do(l)
		if got := slices.Collect(seq); !slices.Equal(got, []int{0, 3}) {
			t.Errorf("%s behind Heard: %v", x.what, got)
		}
		l = list()
		var got []int
		for i := range signal.Heard(l, span(8, 30), 50) {
			got = append(got, i)
			x.do(l)
		}
		if !slices.Equal(got, []int{0, 3}) {
			t.Errorf("%s while Heard tells: %v", x.what, got)
		}
	}
	l := make([]api.Signal, 2)
	seq := signal.Heard(l, span(8, 30), 50)
	copy(l, list())
	if got := slices.Collect(seq); len(got) != 0 {
		t.Errorf("Heard of signals that came only later: %v", got)
	}
}

// R4: the same calls answer the same

func TestSameCallsAnswerTheSame(t *testing.T) {
	l := oddList()
	other := ownList(l)
	for _, threshold := range thresholds(100) {
		for _, in := range []api.Span{span(0, 100), span(50, 70), span(50, 74), span(0, 15), span(5, 4)} {
			for range 2 {
				wantHeard(t, other, in, threshold, heard(l, in, threshold)...)
				wantSeen(t, other, in, span(0, 60), threshold, signal.Judge(l, in, span(0, 60), threshold))
				wantBusy(t, other, threshold, signal.Busy(l, threshold)...)
			}
		}
	}
}

// P1: every call ends and none panics

func TestNoCallPanics(t *testing.T) {
	numbers := []int{math.MinInt, -2, -1, 0, 1, 7, 8, 200, 201, math.MaxInt}
	moments := []int64{math.MinInt64, -1, 0, 50, lastTick, lastTick + 1, math.MaxInt64}
	someBits := append(noBits(), api.Bits{}, patterned(1), patterned(mostBits), patterned(mostBits+1))
	for _, n := range numbers {
		for _, a := range moments {
			for _, b := range moments {
				for _, x := range someBits {
					s := api.Signal{From: n, Span: span(a, b), Level: n, B: x}
					signal.Check(s)
					signal.Whole(s)
					signal.Make(n, a, n, x)
					heard([]api.Signal{s, s}, span(a, b), n)
					signal.Judge([]api.Signal{s}, span(b, a), span(a, b), n)
					signal.Judge([]api.Signal{s}, span(a, b), span(b, a), n)
					signal.Busy([]api.Signal{s, s}, n)
					signal.Same(api.Seen{Kind: n, At: a, B: x}, api.Seen{Kind: n, At: b, B: x})
				}
			}
		}
	}
}
