package signal_test

import (
	"math"
	"testing"

	"metronome/api"
	"metronome/signal"
)

// nothing and noise are what is seen where there is no frame.
func nothing() api.Seen { return api.Seen{} }

func noise() api.Seen { return api.Seen{Kind: api.SnNoise} }

// frameOf is what is seen of a frame.
func frameOf(s api.Signal) api.Seen {
	return api.Seen{Kind: api.SnFrame, At: s.Span.From, B: s.B}
}

// The chapter's example

func TestExample(t *testing.T) {
	b := patterned(20)
	s, e := signal.Make(0, 50, 100, b)
	if e != api.OK || s.Span != span(50, 74) {
		t.Fatalf("Make: %+v, %d", s, e)
	}
	wantSeen(t, []api.Signal{s}, span(0, 100), span(40, 60), 50, api.Seen{Kind: 2, At: 50, B: b})
}

// P11.3: Judge

func TestJudgeOfNothing(t *testing.T) {
	slot, window := span(0, 100), span(40, 60)
	for _, threshold := range thresholds(100) {
		wantSeen(t, nil, slot, window, threshold, nothing())
		wantSeen(t, []api.Signal{}, slot, window, threshold, nothing())
		wantSeen(t, []api.Signal{{}, {}}, slot, window, threshold, nothing())
		wantSeen(t, []api.Signal{signalOf(0, 100, 100, 20), signalOf(0, 200, 100, 20)}, slot, window, threshold, nothing())
		wantSeen(t, []api.Signal{signalOf(0, 50, 0, 20)}, slot, window, threshold, nothing())
		for _, x := range noSignals() {
			wantSeen(t, []api.Signal{x.s}, slot, window, threshold, nothing())
		}
	}
}

func TestJudgeByTheThreshold(t *testing.T) {
	for level := 0; level <= mostPower; level++ {
		l := []api.Signal{signalOf(5, 50, level, 20)}
		for _, threshold := range thresholds(level) {
			want := nothing()
			if level >= 1 && level >= threshold {
				want = frameOf(l[0])
			}
			wantSeen(t, l, span(0, 100), span(40, 60), threshold, want)
		}
	}
}

func TestJudgeOfOneInAllSlotsAndWindows(t *testing.T) {
	l := []api.Signal{signalOf(3, 20, 100, 1)} // 20 to 35
	for slotFrom := int64(17); slotFrom <= 23; slotFrom++ {
		for slotTo := int64(15); slotTo <= 38; slotTo++ {
			for windowFrom := int64(17); windowFrom <= 23; windowFrom++ {
				for windowTo := int64(17); windowTo <= 23; windowTo++ {
					want := nothing()
					if slotFrom < slotTo && slotTo > 20 {
						want = noise()
						if slotFrom <= 20 && slotTo >= 35 && windowFrom <= 20 && windowTo > 20 {
							want = frameOf(l[0])
						}
					}
					wantSeen(t, l, span(slotFrom, slotTo), span(windowFrom, windowTo), 100, want)
				}
			}
		}
	}
}

func TestJudgeByTheWindow(t *testing.T) {
	for _, x := range []struct {
		at int64
		is bool
	}{{38, false}, {39, false}, {40, true}, {41, true}, {58, true}, {59, true}, {60, false}, {61, false}} {
		l := []api.Signal{signalOf(0, x.at, 100, 20)}
		if x.is {
			wantSeen(t, l, span(0, 100), span(40, 60), 50, frameOf(l[0]))
		} else {
			wantSeen(t, l, span(0, 100), span(40, 60), 50, noise())
		}
	}
	l := []api.Signal{signalOf(0, 50, 100, 20)}
	wantSeen(t, l, span(0, 100), span(50, 51), 50, frameOf(l[0]))
	for _, window := range []api.Span{span(50, 50), span(51, 51), span(0, 0), span(100, 100), span(60, 40), span(50, 49), span(51, 50)} {
		wantSeen(t, l, span(0, 100), window, 50, noise())
	}
}

func TestJudgeTakesAWindowThatIsNotInTheSlot(t *testing.T) {
	l := []api.Signal{signalOf(0, 50, 100, 20)}
	for _, window := range []api.Span{span(0, lastTick), span(0, 51), span(50, lastTick), span(50, 200)} {
		wantSeen(t, l, span(50, 74), window, 50, frameOf(l[0]))
	}
}

func TestJudgeByTheSlot(t *testing.T) {
	l := []api.Signal{signalOf(0, 50, 100, 20)} // 50 to 74
	window := span(0, 100)
	for _, x := range []struct {
		slot api.Span
		want api.Seen
	}{
		{span(50, 74), frameOf(l[0])},
		{span(49, 75), frameOf(l[0])},
		{span(0, lastTick), frameOf(l[0])},
		{span(50, 73), noise()},
		{span(51, 74), noise()},
		{span(51, 73), noise()},
		{span(73, 90), noise()},
		{span(0, 51), noise()},
		{span(60, 61), noise()},
		{span(74, 90), nothing()},
		{span(0, 50), nothing()},
		{span(60, 60), nothing()},
		{span(74, 50), nothing()},
	} {
		wantSeen(t, l, x.slot, window, 50, x.want)
	}
}

func TestJudgeRefusesSlotsAndWindows(t *testing.T) {
	l := []api.Signal{signalOf(0, 50, 100, 20)}
	for _, bad := range noSpans() {
		wantSeen(t, l, bad, span(40, 60), 50, nothing())
		wantSeen(t, l, span(0, 100), bad, 50, noise())
		wantSeen(t, l, bad, bad, 50, nothing())
		wantSeen(t, nil, span(0, 100), bad, 50, nothing())
	}
}

func TestJudgeAtTheEnds(t *testing.T) {
	first, last := signalOf(0, 0, 100, 20), signalOf(0, lastTick-airOf(20), 100, 20)
	l := []api.Signal{first, last}
	wantSeen(t, l, span(0, 24), span(0, 1), 1, frameOf(first))
	wantSeen(t, l, span(0, 23), span(0, 1), 1, noise())
	wantSeen(t, l, span(lastTick-24, lastTick), span(lastTick-24, lastTick), 1, frameOf(last))
	wantSeen(t, l, span(lastTick-23, lastTick), span(lastTick-24, lastTick), 1, noise())
	wantSeen(t, l, span(24, lastTick-24), span(0, lastTick), 1, nothing())
	wantSeen(t, l, span(0, lastTick), span(0, lastTick), 1, noise())
}

func TestJudgeOfWhatIsNotWhole(t *testing.T) {
	for _, n := range []int{0, 1, 2, 20, mostBits, mostBits + 1} {
		for _, by := range []int64{-14, -1, 0, 1} {
			l := []api.Signal{{From: 2, Span: span(50, 50+airOf(n)+by), Level: 100, B: patterned(n)}}
			switch {
			case n == 0 && by == -14:
				wantSeen(t, l, span(0, 3000), span(40, 60), 50, nothing())
			case n >= 1 && n <= mostBits && by == 0:
				wantSeen(t, l, span(0, 3000), span(40, 60), 50, frameOf(l[0]))
			default:
				wantSeen(t, l, span(0, 3000), span(40, 60), 50, noise())
			}
		}
	}
}

func TestJudgeOfASecondSignal(t *testing.T) {
	s := signalOf(3, 50, 100, 20)
	slot, window := span(0, 100), span(40, 60)
	for _, x := range []struct {
		other api.Signal
		want  api.Seen
	}{
		{noiseOf(1, span(0, 1), 50), noise()},
		{noiseOf(1, span(99, 100), 50), noise()},
		{noiseOf(1, span(99, 200), 50), noise()},
		{noiseOf(1, span(0, lastTick), 200), noise()},
		{signalOf(3, 50, 100, 20), noise()},
		{signalOf(4, 80, 50, 20), noise()},
		{noiseOf(1, span(0, 1), 49), frameOf(s)},
		{noiseOf(1, span(50, 74), 0), frameOf(s)},
		{noiseOf(1, span(60, 60), 200), frameOf(s)},
		{noiseOf(1, span(100, 200), 200), frameOf(s)},
		{noiseOf(1, span(100, 100), 200), frameOf(s)},
	} {
		wantSeen(t, []api.Signal{s, x.other}, slot, window, 50, x.want)
		wantSeen(t, []api.Signal{x.other, s}, slot, window, 50, x.want)
	}
	for _, x := range noSignals() {
		wantSeen(t, []api.Signal{s, x.s}, slot, window, 50, frameOf(s))
		wantSeen(t, []api.Signal{x.s, s, x.s}, slot, window, 50, frameOf(s))
	}
}

func TestJudgeOfSeveral(t *testing.T) {
	s := signalOf(3, 50, 100, 20)
	slot, window := span(0, 100), span(40, 60)
	for n := 2; n <= 9; n++ {
		var l []api.Signal
		for range n {
			l = append(l, s)
		}
		wantSeen(t, l, slot, window, 50, noise())
		wantSeen(t, l, slot, window, 101, nothing())
	}
}

func TestJudgeOfManyLists(t *testing.T) {
	for _, window := range []api.Span{span(20, 21), span(0, 70), span(21, 35), span(35, 36), span(20, 20), span(-1, 70)} {
		everyList(func(l []api.Signal, slot api.Span, threshold int) {
			wantSeen(t, l, slot, window, threshold, seenOf(l, slot, window, threshold))
		})
	}
}

// P11.3: Same

func TestSameByHand(t *testing.T) {
	b := patterned(20)
	s := api.Seen{Kind: api.SnFrame, At: 50, B: b}
	for _, x := range []struct {
		what string
		o    api.Seen
		want bool
	}{
		{"itself", s, true},
		{"the same bits elsewhere", api.Seen{Kind: api.SnFrame, At: 50, B: patterned(20)}, true},
		{"another Kind", api.Seen{Kind: api.SnNoise, At: 50, B: b}, false},
		{"no Kind", api.Seen{At: 50, B: b}, false},
		{"another At", api.Seen{Kind: api.SnFrame, At: 51, B: b}, false},
		{"an At whose lower half is the same", api.Seen{Kind: api.SnFrame, At: 50 + 1<<32, B: b}, false},
		{"no At", api.Seen{Kind: api.SnFrame, B: b}, false},
		{"fewer bits", api.Seen{Kind: api.SnFrame, At: 50, B: patterned(19)}, false},
		{"another N", api.Seen{Kind: api.SnFrame, At: 50, B: api.Bits{N: 21, B: b.B}}, false},
		{"other bytes", api.Seen{Kind: api.SnFrame, At: 50, B: api.Bits{N: 20, B: []byte{1, 2, 0x30}}}, false},
		{"no bits", api.Seen{Kind: api.SnFrame, At: 50}, false},
		{"nothing", api.Seen{}, false},
	} {
		if is := signal.Same(s, x.o); is != x.want {
			t.Errorf("Same, %s: %t", x.what, is)
		}
		if is := signal.Same(x.o, s); is != x.want {
			t.Errorf("Same the other way, %s: %t", x.what, is)
		}
	}
}

func TestSameOfAllThatDiffers(t *testing.T) {
	var l []api.Seen
	for _, kind := range []int{math.MinInt, -1, 0, 1, 2, 3, math.MaxInt} {
		for _, at := range []int64{math.MinInt64, -1, 0, 1, lastTick, lastTick + 1, math.MaxInt64} {
			for _, b := range append(noBits(), api.Bits{}, patterned(1), patterned(2), patterned(mostBits)) {
				l = append(l, api.Seen{Kind: kind, At: at, B: b})
			}
		}
	}
	for i, a := range l {
		for j, b := range l {
			if signal.Same(a, b) != (i == j) {
				t.Fatalf("Same(%+v, %+v): %t", a, b, i != j)
			}
		}
	}
}

func TestSameOfNoBytes(t *testing.T) {
	for _, n := range []int{-1, 0, 1, 9} {
		a, b := api.Seen{Kind: 1, At: 2, B: api.Bits{N: n}}, api.Seen{Kind: 1, At: 2, B: api.Bits{N: n, B: []byte{}}}
		if !signal.Same(a, b) || !signal.Same(b, a) {
			t.Errorf("Same of nil and empty bytes of N %d", n)
		}
	}
}
