package clock_test

import (
	"fmt"
	"math"
	"slices"
	"testing"

	"metronome/api"
	"metronome/clock"
	"metronome/medl"
)

// The limits, as the chapter tells them.
const (
	maxNodes  = 8
	maxSlots  = 1_048_576         // 2^20
	maxTick   = 1_099_511_627_776 // 2^40
	maxSlot   = 16_777_216        // 2^24
	maxGap    = 1_048_576         // 2^20
	lastStart = maxTick - maxSlot
	errMedl   = api.Errno(70)
	errClock  = api.Errno(130)
)

// Lists.

// plain is Plain of so many nodes and a Drift.
func plain(nodes, drift int) api.Medl {
	m, e := medl.Plain(nodes, drift)
	if e != api.OK {
		panic("no plain list")
	}
	return m
}

// delayed is a list with another Delay, whose Gap and Slot are as small as they may be.
func delayed(m api.Medl, delay int) api.Medl {
	m.Delay = delay
	m.Gap = 2*m.Window + 2*delay + 4
	m.Slot = 2*m.Gap + medl.MaxAir(m)
	return m
}

// wide is a list whose Window, Gap and Slot are as great as they may be.
func wide(m api.Medl) api.Medl {
	m.Window = (maxGap-4)/2 - m.Delay
	m.Gap = maxGap
	m.Slot = maxSlot
	return m
}

// lists are many that may be: tight ones, and wide ones, with and without drift and delay.
func lists() []api.Medl {
	var l []api.Medl
	for _, nodes := range []int{4, 5, 8} {
		for _, drift := range []int{0, 1, 64} {
			for _, delay := range []int{0, 1, 64} {
				m := delayed(plain(nodes, drift), delay)
				l = append(l, m, wide(m))
			}
		}
	}
	for _, m := range l {
		if medl.Check(m) != api.OK {
			panic("a list that may not be")
		}
	}
	return l
}

// noLists are lists that may not be.
func noLists() []api.Medl {
	m := plain(4, 1)
	l := []api.Medl{{}, {Nodes: 4, Slot: m.Slot, Gap: m.Gap, Window: m.Window}}
	for _, do := range []func(*api.Medl){
		func(m *api.Medl) { m.Nodes = 3 },
		func(m *api.Medl) { m.Nodes = 0 },
		func(m *api.Medl) { m.Nodes = math.MinInt },
		func(m *api.Medl) { m.Slot-- },
		func(m *api.Medl) { m.Slot = maxSlot + 1 },
		func(m *api.Medl) { m.Slot = math.MaxInt },
		func(m *api.Medl) { m.Gap = math.MaxInt },
		func(m *api.Medl) { m.Gap-- },
		func(m *api.Medl) { m.Window-- },
		func(m *api.Medl) { m.Window = math.MaxInt },
		func(m *api.Medl) { m.Drift = -1 },
		func(m *api.Medl) { m.Drift = math.MaxInt },
		func(m *api.Medl) { m.Delay = 65 },
		func(m *api.Medl) { m.Cold = nil },
		func(m *api.Medl) { m.Modes = nil },
	} {
		x := m
		do(&x)
		l = append(l, x)
	}
	return l
}

// Clocks.

// text is a clock as a text, in which nil and empty Devs are the same.
func text(c api.Clock) string { return fmt.Sprintf("%v", c) }

// own is a clock that shares nothing with another one.
func own(c api.Clock) api.Clock {
	c.Devs = slices.Clone(c.Devs)
	return c
}

// with is a clock in which something is otherwise.
func with(c api.Clock, do func(*api.Clock)) api.Clock {
	c = own(c)
	do(&c)
	return c
}

// devs are n of the same.
func devs(n int, dev int64) []int64 { return slices.Repeat([]int64{dev}, n) }

// clocks are those of a list that may be: ordinary ones, and those at each edge.
func clocks(m api.Medl) []api.Clock {
	w := int64(m.Window)
	l := []api.Clock{{}, {Start: lastStart, Slot: maxSlots, Devs: devs(maxNodes, w)}, {Slot: 5, Devs: []int64{}}}
	for _, start := range []int64{0, 1, 1000, lastStart - 1, lastStart} {
		l = append(l, api.Clock{Start: start, Slot: 2, Devs: []int64{4, -2, 6}})
	}
	for _, slot := range []int{0, 1, 3, 4, 7, 8, maxSlots - 1, maxSlots} {
		l = append(l, api.Clock{Start: 5000, Slot: slot, Devs: []int64{1, 0, -w, w, 7}})
	}
	for n := 0; n <= maxNodes; n++ {
		l = append(l, api.Clock{Start: 777, Slot: 6, Devs: devs(n, w)}, api.Clock{Start: 778, Slot: 7, Devs: devs(n, -w)})
	}
	return l
}

// noClocks are those that may not be, each by one thing, and one by all.
func noClocks(m api.Medl) []api.Clock {
	w := int64(m.Window)
	var l []api.Clock
	for _, start := range []int64{math.MinInt64, -maxTick, -2, -1, lastStart + 1, maxTick, maxTick + 1, math.MaxInt64} {
		l = append(l, api.Clock{Start: start, Slot: 1, Devs: []int64{3}})
	}
	for _, slot := range []int{math.MinInt, -4, -1, maxSlots + 1, maxSlots + 4, 1 << 32, math.MaxInt} {
		l = append(l, api.Clock{Start: 100, Slot: slot, Devs: []int64{3}})
	}
	for _, n := range []int{maxNodes + 1, maxNodes + 2, 256, 264} {
		l = append(l, api.Clock{Start: 100, Slot: 1, Devs: devs(n, 0)})
	}
	for _, dev := range []int64{math.MinInt64, -1 << 32, -w - 2, -w - 1, w + 1, w + 2, 1 << 32, math.MaxInt64} {
		for n := 1; n <= maxNodes; n++ {
			for at := range n {
				c := api.Clock{Start: 100, Slot: 1, Devs: devs(n, 0)}
				c.Devs[at] = dev
				l = append(l, c)
			}
		}
	}
	return append(l, api.Clock{Start: -1, Slot: -1, Devs: devs(maxNodes+1, w+1)})
}

// Arguments that are strange to everything.
var (
	strangeMoments = []int64{math.MinInt64, math.MinInt64 + 1, -maxTick, -1, 0, 1, 139, lastStart, maxTick, math.MaxInt64 - 1, math.MaxInt64}
	strangeCounts  = []int{math.MinInt, math.MinInt + 1, -65, -64, -1, 0, 1, 3, 4, 8, 64, 65, math.MaxInt - 1, math.MaxInt}
)

// What is asked for.

// wantClock asks for a clock and an error, and for no clock beside an error.
func wantClock(t *testing.T, what string, c api.Clock, e api.Errno, want api.Clock, wantE api.Errno) {
	t.Helper()
	if wantE != api.OK {
		want = api.Clock{}
		if c.Devs != nil {
			t.Errorf("%s: Devs beside an error: %v", what, c)
		}
	}
	if e != wantE || text(c) != text(want) {
		t.Errorf("%s: %v, %d; want %v, %d", what, c, e, want, wantE)
	}
}

func wantCheck(t *testing.T, m api.Medl, c api.Clock, want api.Errno) {
	t.Helper()
	if e := clock.Check(m, c); e != want {
		t.Errorf("Check(%v, %v): %d; want %d", m, c, e, want)
	}
}

func wantSlot(t *testing.T, m api.Medl, c api.Clock, want api.Span, wantE api.Errno) {
	t.Helper()
	if s, e := clock.Slot(m, c); s != want || e != wantE {
		t.Errorf("Slot(%v, %v): %v, %d; want %v, %d", m, c, s, e, want, wantE)
	}
}

func wantSend(t *testing.T, m api.Medl, c api.Clock, want int64, wantE api.Errno) {
	t.Helper()
	if at, e := clock.Send(m, c); at != want || e != wantE {
		t.Errorf("Send(%v, %v): %d, %d; want %d, %d", m, c, at, e, want, wantE)
	}
}

func wantWindow(t *testing.T, m api.Medl, c api.Clock, want api.Span, wantE api.Errno) {
	t.Helper()
	if s, e := clock.Window(m, c); s != want || e != wantE {
		t.Errorf("Window(%v, %v): %v, %d; want %v, %d", m, c, s, e, want, wantE)
	}
}

func wantSee(t *testing.T, m api.Medl, c api.Clock, at int64, want api.Clock, wantE api.Errno) {
	t.Helper()
	got, e := clock.See(m, c, at)
	wantClock(t, fmt.Sprintf("See(%v, %v, %d)", m, c, at), got, e, want, wantE)
}

func wantCorrect(t *testing.T, m api.Medl, c api.Clock, want int64, wantE api.Errno) {
	t.Helper()
	if by, e := clock.Correct(m, c); by != want || e != wantE {
		t.Errorf("Correct(%v, %v): %d, %d; want %d, %d", m, c, by, e, want, wantE)
	}
}

func wantNext(t *testing.T, m api.Medl, c api.Clock, drift int, want api.Clock, wantE api.Errno) {
	t.Helper()
	got, e := clock.Next(m, c, drift)
	wantClock(t, fmt.Sprintf("Next(%v, %v, %d)", m, c, drift), got, e, want, wantE)
}

func wantJoin(t *testing.T, m api.Medl, at int64, pos int, want api.Clock, wantE api.Errno) {
	t.Helper()
	got, e := clock.Join(m, at, pos)
	wantClock(t, fmt.Sprintf("Join(%v, %d, %d)", m, at, pos), got, e, want, wantE)
}

// wantAll asks for one error of all calls of a list and a clock, whatever is beside them.
func wantAll(t *testing.T, m api.Medl, c api.Clock, want api.Errno) {
	t.Helper()
	wantCheck(t, m, c, want)
	wantSlot(t, m, c, api.Span{}, want)
	wantSend(t, m, c, 0, want)
	wantWindow(t, m, c, api.Span{}, want)
	wantCorrect(t, m, c, 0, want)
	for _, at := range strangeMoments {
		wantSee(t, m, c, at, api.Clock{}, want)
	}
	for _, drift := range strangeCounts {
		wantNext(t, m, c, drift, api.Clock{}, want)
	}
}

// P13.1: Check, and what all others answer of what may not be

func TestCheckTakesWhatMayBe(t *testing.T) {
	for _, m := range lists() {
		for _, c := range clocks(m) {
			wantCheck(t, m, c, api.OK)
		}
	}
}

func TestAllCallsRefuseAClockThatMayNotBe(t *testing.T) {
	for _, m := range []api.Medl{plain(4, 0), plain(8, 64), wide(plain(5, 1))} {
		for _, c := range noClocks(m) {
			wantAll(t, m, c, errClock)
		}
	}
}

func TestAllCallsRefuseAListThatMayNotBe(t *testing.T) {
	good := plain(4, 1)
	for _, m := range noLists() {
		for _, c := range append(clocks(good)[:4], noClocks(good)[:12]...) {
			wantAll(t, m, c, errMedl)
		}
		for _, at := range strangeMoments {
			for _, pos := range strangeCounts {
				wantJoin(t, m, at, pos, api.Clock{}, errMedl)
			}
		}
	}
}

func TestCheckFieldByField(t *testing.T) {
	errOf := func(is bool) api.Errno {
		if is {
			return api.OK
		}
		return errClock
	}
	for _, m := range lists() {
		for k := int64(-3); k <= 3; k++ {
			wantCheck(t, m, api.Clock{Start: k}, errOf(k >= 0))
			wantCheck(t, m, api.Clock{Start: lastStart + k}, errOf(k <= 0))
			wantCheck(t, m, api.Clock{Slot: int(k)}, errOf(k >= 0))
			wantCheck(t, m, api.Clock{Slot: maxSlots + int(k)}, errOf(k <= 0))
			for at := range maxNodes {
				l := devs(maxNodes, 0)
				l[at] = int64(m.Window) + k
				wantCheck(t, m, api.Clock{Devs: l}, errOf(k <= 0))
				l[at] = -int64(m.Window) + k
				wantCheck(t, m, api.Clock{Devs: l}, errOf(k >= 0))
			}
		}
		for n := range 2 * maxNodes {
			wantCheck(t, m, api.Clock{Devs: devs(n, 1)}, errOf(n <= maxNodes))
		}
	}
}

// TestAClockHangsOnItsList asks for the Window of the list at hand, and not of another one.
func TestAClockHangsOnItsList(t *testing.T) {
	c := api.Clock{Devs: []int64{17}}
	wantCheck(t, plain(4, 0), c, errClock) // of Window 16
	wantCheck(t, plain(4, 1), c, api.OK)   // of Window 80
	c.Devs[0] = -81
	wantCheck(t, plain(4, 1), c, errClock)
	wantCheck(t, plain(5, 1), c, api.OK) // of Window 96
}

// P13.1: Slot, Send, Window

func TestExample(t *testing.T) {
	m := plain(4, 0)
	c := api.Clock{Start: 100}
	wantSend(t, m, c, 138, api.OK)
	wantWindow(t, m, c, api.Span{From: 123, To: 156}, api.OK)
	c.Devs = []int64{4, -2, 6}
	wantCorrect(t, m, c, 2, api.OK)
}

func TestTimesOfASlot(t *testing.T) {
	for _, m := range lists() {
		for _, c := range clocks(m) {
			gap, delay, w := int64(m.Gap), int64(m.Delay), int64(m.Window)
			wantSlot(t, m, c, api.Span{From: c.Start, To: c.Start + int64(m.Slot)}, api.OK)
			wantSend(t, m, c, c.Start+gap, api.OK)
			wantWindow(t, m, c, api.Span{From: c.Start + gap + delay - w, To: c.Start + gap + delay + w + 1}, api.OK)
		}
	}
}

// TestNoWindowBeginsBelow0 asks it of the lists that come nearest to it: in a slot that begins at 0, Gap is yet greater than Window.
func TestNoWindowBeginsBelow0(t *testing.T) {
	for _, m := range lists() {
		s, e := clock.Window(m, api.Clock{})
		if e != api.OK || s.From <= 0 || s.From != int64(m.Gap+m.Delay-m.Window) {
			t.Errorf("Window of the zero Clock, %v: %v, %d", m, s, e)
		}
	}
}

// TestTheZeroClock asks all of the clock that begins with all others.
func TestTheZeroClock(t *testing.T) {
	m := plain(4, 1) // of Window 80, Gap 166, Slot 394
	c := api.Clock{}
	wantCheck(t, m, c, api.OK)
	wantSlot(t, m, c, api.Span{To: 394}, api.OK)
	wantSend(t, m, c, 166, api.OK)
	wantWindow(t, m, c, api.Span{From: 87, To: 248}, api.OK)
	wantSee(t, m, c, 87, api.Clock{Devs: []int64{-80}}, api.OK)
	wantSee(t, m, c, 0, api.Clock{}, api.ErrArg)
	wantCorrect(t, m, c, 0, api.OK)
	wantNext(t, m, c, 1, api.Clock{Start: 395, Slot: 1}, api.OK)
	wantNext(t, m, c, 2, api.Clock{}, api.ErrArg)
	wantJoin(t, m, 167, 0, api.Clock{}, api.OK)
	if !clock.Same(c, api.Clock{}) {
		t.Error("not Same: the zero Clock, twice")
	}
}

// P13.2: See

func TestSee(t *testing.T) {
	for _, m := range lists() {
		w := int64(m.Window)
		for _, c := range clocks(m) {
			expected := c.Start + int64(m.Gap) + int64(m.Delay)
			for _, dev := range []int64{-w, -w + 1, -7, -1, 0, 1, 7, w - 1, w} {
				want, wantE := with(c, func(c *api.Clock) { c.Devs = append(c.Devs, dev) }), api.OK
				if len(c.Devs) == maxNodes {
					wantE = api.ErrArg
				}
				wantSee(t, m, c, expected+dev, want, wantE)
			}
			for _, dev := range []int64{-1 << 40, -w - 2, -w - 1, w + 1, w + 2, 1 << 40} {
				wantSee(t, m, c, expected+dev, api.Clock{}, api.ErrArg)
			}
			for _, at := range []int64{math.MinInt64, math.MinInt64 + expected, -1, math.MaxInt64} {
				wantSee(t, m, c, at, api.Clock{}, api.ErrArg)
			}
		}
	}
}

func TestSeeByHand(t *testing.T) {
	m := plain(4, 0)
	c := api.Clock{Start: 100, Slot: 9}
	wantSee(t, m, c, 122, api.Clock{}, api.ErrArg)
	wantSee(t, m, c, 156, api.Clock{}, api.ErrArg)
	for i, at := range []int64{123, 155, 139, 140, 138, 139, 150, 128} {
		c, _ = clock.See(m, c, at)
		wantClock(t, fmt.Sprint("See of ", at), c, api.OK, api.Clock{Start: 100, Slot: 9, Devs: []int64{-16, 16, 0, 1, -1, 0, 11, -11}[:i+1]}, api.OK)
	}
	for at := int64(120); at < 160; at++ {
		wantSee(t, m, c, at, api.Clock{}, api.ErrArg)
	}
}

// P13.2: Correct

func TestCorrect(t *testing.T) {
	m := plain(4, 1)
	for _, x := range []struct {
		devs []int64
		want int64
	}{
		{nil, 0}, {[]int64{}, 0}, {[]int64{0}, 0},
		{[]int64{1}, 0}, {[]int64{-1}, -1}, {[]int64{7}, 3}, {[]int64{-7}, -4}, {[]int64{80}, 40}, {[]int64{-80}, -40}, // half, rounded down
		{[]int64{3, 8}, 4}, {[]int64{-3, -8}, -4}, {[]int64{-3, 8}, 2}, {[]int64{-8, 3}, -3}, // of three with the 0 none is left out
		{[]int64{4, -2, 6}, 2}, {[]int64{7, 9, -3}, 3}, {[]int64{5, 5, 5}, 5}, {[]int64{-5, -5, -5}, -5}, // of four or more two are
		{[]int64{80, 80, 80}, 80}, {[]int64{-80, -80, -80}, -80}, {[]int64{1, 2, 80}, 1}, {[]int64{-1, -2, -80}, -2},
		{[]int64{1, 2, 3, 4}, 2}, {[]int64{4, 1, 3, 2}, 2}, {[]int64{-80, -1, 2, 80}, 0}, {[]int64{-80, -4, 1, 80}, -2},
		{[]int64{1, 2, 3, 4, 5, 6, 7}, 3}, {[]int64{7, 6, 5, 4, 3, 2, 1, 8}, 4}, {[]int64{-1, -1, -1, -1, -1, -1, -1, -80}, -1},
		{devs(maxNodes, 80), 80}, {devs(maxNodes, -80), -80},
	} {
		for _, slot := range []int{0, 3, 4, maxSlots} {
			wantCorrect(t, m, api.Clock{Start: 55, Slot: slot, Devs: x.devs}, x.want, api.OK)
		}
	}
}

// midpoint is Midpoint of numbers and a 0, as chapter 8 reckons it: the least and the greatest one taken out, one by one.
func midpoint(l []int64) int64 {
	l = append(slices.Clone(l), 0)
	if len(l) >= 4 {
		at := slices.Index(l, slices.Min(l))
		l = slices.Delete(l, at, at+1)
		at = slices.Index(l, slices.Max(l))
		l = slices.Delete(l, at, at+1)
	}
	both := slices.Min(l) + slices.Max(l)
	if both%2 != 0 {
		both--
	}
	return both / 2
}

func TestCorrectIsTheMidpoint(t *testing.T) {
	c := chance(131)
	for _, m := range lists() {
		for range 300 {
			l := c.devs(m, c.below(maxNodes+1))
			wantCorrect(t, m, api.Clock{Start: int64(c.below(1000)), Slot: c.below(50), Devs: l}, midpoint(l), api.OK)
		}
	}
}

// P13.2: Next

func TestNextByHand(t *testing.T) {
	m := plain(4, 1) // of Slot 394
	c := api.Clock{Start: 1000, Slot: 2, Devs: []int64{4, -2, 6}}
	wantNext(t, m, c, -1, api.Clock{Start: 1393, Slot: 3, Devs: []int64{4, -2, 6}}, api.OK)
	wantNext(t, m, c, 0, api.Clock{Start: 1394, Slot: 3, Devs: []int64{4, -2, 6}}, api.OK)
	c.Slot = 3
	wantNext(t, m, c, 1, api.Clock{Start: 1397, Slot: 4}, api.OK)
	c.Slot = 4
	wantNext(t, m, c, 1, api.Clock{Start: 1395, Slot: 5, Devs: []int64{4, -2, 6}}, api.OK)
	c.Slot, c.Devs = 7, []int64{-7}
	wantNext(t, m, c, -1, api.Clock{Start: 1389, Slot: 8}, api.OK)
}

func TestNext(t *testing.T) {
	c := chance(132)
	for _, m := range lists() {
		for slot := range 3 * m.Nodes {
			for n := 0; n <= maxNodes; n++ {
				l := c.devs(m, n)
				x := api.Clock{Start: int64(c.below(1 << 30)), Slot: slot, Devs: l}
				for _, drift := range []int{-m.Drift, -m.Drift / 2, 0, m.Drift / 2, m.Drift} {
					want := api.Clock{Start: x.Start + int64(m.Slot+drift), Slot: slot + 1, Devs: l}
					if (slot+1)%m.Nodes == 0 {
						want.Start, want.Devs = want.Start+midpoint(l), nil
					}
					wantNext(t, m, x, drift, want, api.OK)
				}
				for _, drift := range []int{math.MinInt, -m.Drift - 2, -m.Drift - 1, m.Drift + 1, m.Drift + 2, 1 << 32, -1 << 32, math.MaxInt} {
					wantNext(t, m, x, drift, api.Clock{}, api.ErrArg)
				}
			}
		}
	}
}

// TestNextLeavesNoStartThatMayBe comes to the last Start that may be, and one behind it.
func TestNextLeavesNoStartThatMayBe(t *testing.T) {
	for _, m := range lists() {
		w, d := int64(m.Window), int64(m.Drift)
		at := lastStart - int64(m.Slot)
		within := api.Clock{Start: at, Slot: m.Nodes, Devs: devs(3, w)}
		wantNext(t, m, within, 0, api.Clock{Start: lastStart, Slot: m.Nodes + 1, Devs: within.Devs}, api.OK)
		within.Start = at + d
		wantNext(t, m, within, -m.Drift, api.Clock{Start: lastStart, Slot: m.Nodes + 1, Devs: within.Devs}, api.OK)
		within.Start++
		wantNext(t, m, within, -m.Drift, api.Clock{}, errClock)
		within.Start = at - d + 1
		wantNext(t, m, within, m.Drift, api.Clock{}, errClock)
		wantNext(t, m, within, m.Drift+1, api.Clock{}, api.ErrArg)

		end := api.Clock{Start: at - w, Slot: m.Nodes - 1, Devs: devs(3, w)}
		wantNext(t, m, end, 0, api.Clock{Start: lastStart, Slot: m.Nodes}, api.OK)
		end.Start++
		wantNext(t, m, end, 0, api.Clock{}, errClock)
		end = api.Clock{Start: at + w, Slot: m.Nodes - 1, Devs: devs(3, -w)}
		wantNext(t, m, end, 0, api.Clock{Start: lastStart, Slot: m.Nodes}, api.OK)
		end.Start++
		wantNext(t, m, end, 0, api.Clock{}, errClock)
		wantNext(t, m, api.Clock{Start: lastStart}, -m.Drift, api.Clock{}, errClock)
	}
}

// TestNextBeginsNeverBelow0 asks it of what comes nearest to it: a slot is yet longer than all that sets a clock back.
func TestNextBeginsNeverBelow0(t *testing.T) {
	for _, m := range lists() {
		back := api.Clock{Slot: m.Nodes - 1, Devs: devs(maxNodes, -int64(m.Window))}
		wantNext(t, m, back, -m.Drift, api.Clock{Start: int64(m.Slot - m.Drift - m.Window), Slot: m.Nodes}, api.OK)
		if m.Slot-m.Drift-m.Window <= 0 {
			t.Errorf("a slot of %v is not longer than its Window and Drift", m)
		}
	}
}

// TestNextLeavesNoSlotThatMayBe comes to the last Slot that may be, which ends a round of some lists, and not of others.
func TestNextLeavesNoSlotThatMayBe(t *testing.T) {
	for _, m := range lists() {
		c := api.Clock{Start: 100, Slot: maxSlots - 1, Devs: []int64{3, 3, 3}}
		want := api.Clock{Start: 100 + int64(m.Slot), Slot: maxSlots, Devs: c.Devs}
		if m.Nodes != 5 {
			want.Start, want.Devs = want.Start+3, nil
		}
		wantNext(t, m, c, 0, want, api.OK)
		for range 2 {
			c.Slot++
			wantNext(t, m, c, 0, api.Clock{}, errClock)
		}
		c.Slot = maxSlots
		wantNext(t, m, c, m.Drift+1, api.Clock{}, api.ErrArg)
		wantNext(t, m, c, -m.Drift-1, api.Clock{}, api.ErrArg)
	}
}

// P13.2: Join

func TestJoin(t *testing.T) {
	for _, m := range lists() {
		into := int64(m.Gap + m.Delay)
		for pos := range m.Nodes {
			for _, start := range []int64{0, 1, 2, 100, 123456789, lastStart - 1, lastStart} {
				wantJoin(t, m, start+into, pos, api.Clock{Start: start, Slot: pos}, api.OK)
			}
			for _, at := range []int64{math.MinInt64, math.MinInt64 + 1, math.MinInt64 + into - 1, math.MinInt64 + into, -maxTick, -1, 0, 1, int64(m.Delay) - 1, int64(m.Gap) - 1, into - 2, into - 1} {
				wantJoin(t, m, at, pos, api.Clock{}, errClock)
			}
			for _, at := range []int64{lastStart + into + 1, lastStart + into + 2, maxTick + into, math.MaxInt64 - 1, math.MaxInt64} {
				wantJoin(t, m, at, pos, api.Clock{}, errClock)
			}
		}
		for _, pos := range []int{math.MinInt, -4, -1, m.Nodes, m.Nodes + 1, 1 << 32, math.MaxInt} {
			for _, at := range append(strangeMoments, into-1, into, into+1) {
				wantJoin(t, m, at, pos, api.Clock{}, api.ErrArg)
			}
		}
	}
}

// TestWhoJoinsExpectsWhatItHeard asks that who joins sees the frame by which it joined neither early nor late.
func TestWhoJoinsExpectsWhatItHeard(t *testing.T) {
	for _, m := range lists() {
		for _, sender := range []api.Clock{{}, {Start: 99999, Slot: 17}, {Start: lastStart, Slot: maxSlots}} {
			at, _ := clock.Send(m, sender)
			at += int64(m.Delay)
			pos := sender.Slot % m.Nodes
			wantJoin(t, m, at, pos, api.Clock{Start: sender.Start, Slot: pos}, api.OK)
			c, _ := clock.Join(m, at, pos)
			wantSee(t, m, c, at, api.Clock{Start: c.Start, Slot: pos, Devs: []int64{0}}, api.OK)
		}
	}
}

// P13.2: Same

func TestSameFieldByField(t *testing.T) {
	c := api.Clock{Start: 100, Slot: 3, Devs: []int64{1, 2, 3}}
	for i, do := range []func(*api.Clock){
		func(c *api.Clock) { c.Start++ },
		func(c *api.Clock) { c.Start += 1 << 32 },
		func(c *api.Clock) { c.Start = -100 },
		func(c *api.Clock) { c.Slot++ },
		func(c *api.Clock) { c.Slot += 1 << 32 },
		func(c *api.Clock) { c.Start, c.Slot = 3, 100 },
		func(c *api.Clock) { c.Devs[0]++ },
		func(c *api.Clock) { c.Devs[2] = -3 },
		func(c *api.Clock) { c.Devs = append(c.Devs, 0) },
		func(c *api.Clock) { c.Devs = c.Devs[:2] },
		func(c *api.Clock) { c.Devs = c.Devs[1:] },
		func(c *api.Clock) { c.Devs = nil },
		func(c *api.Clock) { slices.Reverse(c.Devs) },
	} {
		d := with(c, do)
		if clock.Same(c, d) || clock.Same(d, c) {
			t.Errorf("change %d: Same(%v, %v)", i, c, d)
		}
		if !clock.Same(d, own(d)) {
			t.Errorf("not Same: %v, twice", d)
		}
	}
}

// TestSameOfAll has clocks that may not be too: Same asks nothing of them.
func TestSameOfAll(t *testing.T) {
	m := plain(4, 0)
	all := append(clocks(m), noClocks(m)...)
	for _, a := range all {
		for _, b := range all {
			if is := clock.Same(a, own(b)); is != (text(a) == text(b)) {
				t.Errorf("Same(%v, %v): %t", a, b, is)
			}
		}
	}
}

func TestEmptyDevsAndNilAreTheSame(t *testing.T) {
	m := plain(4, 1)
	for slot := range 9 {
		none := api.Clock{Start: 100, Slot: slot}
		empty := api.Clock{Start: 100, Slot: slot, Devs: make([]int64, 0, 5)}
		if !clock.Same(none, empty) || !clock.Same(empty, none) {
			t.Errorf("not Same: %v, %v", none, empty)
		}
		wantCheck(t, m, empty, api.OK)
		wantCorrect(t, m, empty, 0, api.OK)
		for _, c := range []api.Clock{none, empty} {
			wantSee(t, m, c, 100+166+1+5, api.Clock{Start: 100, Slot: slot, Devs: []int64{5}}, api.OK)
			wantNext(t, m, c, 1, api.Clock{Start: 495, Slot: slot + 1}, api.OK)
		}
	}
}
