package clock_test

import (
	"math"
	"slices"
	"testing"

	"metronome/api"
	"metronome/clock"
	"metronome/medl"
)

// chance tells numbers that are the same in each run.
type chance uint64

func (c *chance) below(n int) int {
	*c = *c*6364136223846793005 + 1442695040888963407
	return int(uint64(*c>>20) % uint64(n))
}

// upTo is a number from -to to to, now and then one of its edges.
func (c *chance) upTo(to int) int {
	switch c.below(8) {
	case 0:
		return to
	case 1:
		return -to
	case 2:
		return 0
	}
	return c.below(2*to+1) - to
}

// devs are n deviations of a list, of one width or another.
func (c *chance) devs(m api.Medl, n int) []int64 {
	to := m.Window >> c.below(5)
	var l []int64
	for range n {
		l = append(l, int64(c.upTo(to)))
	}
	return l
}

// must is what a call answers that is to be right.
func must[T any](t *testing.T) func(T, api.Errno) T {
	return func(x T, e api.Errno) T {
		t.Helper()
		if e != api.OK {
			t.Fatalf("error %d", e)
		}
		return x
	}
}

// precision is how far clocks of a list may be apart, as chapter 7 tells.
func precision(m api.Medl) int64 { return int64(14*m.Nodes*m.Drift + 8) }

// P13.3: a frame is heard

func TestAFrameIsHeard(t *testing.T) {
	for _, m := range lists() {
		p := precision(m)
		for _, apart := range []int64{-p, -p + 1, -1, 0, 1, p / 2, p - 1, p} {
			for _, start := range []int64{p, 123456, lastStart - p} {
				wantHeard(t, m, api.Clock{Start: start, Slot: 3}, api.Clock{Start: start + apart, Slot: 7})
			}
		}
	}
}

// wantHeard asks that one's frame, as long as may be, begins within the other one's Window, and ends within both's slots.
func wantHeard(t *testing.T, m api.Medl, sender, other api.Clock) {
	t.Helper()
	at := must[int64](t)(clock.Send(m, sender)) + int64(m.Delay)
	end := at + int64(medl.MaxAir(m))
	in := must[api.Span](t)(clock.Window(m, other))
	if at < in.From || at >= in.To {
		t.Errorf("%v: a frame of %v comes at %d, not within %v of %v", m, sender, at, in, other)
	}
	for _, c := range []api.Clock{sender, other} {
		if slot := must[api.Span](t)(clock.Slot(m, c)); at < slot.From || end > slot.To {
			t.Errorf("%v: a frame of %v is there from %d to %d, not within %v of %v", m, sender, at, end, slot, c)
		}
	}
	seen := must[api.Clock](t)(clock.See(m, other, at))
	if len(seen.Devs) != 1 || seen.Devs[0] != sender.Start-other.Start {
		t.Errorf("%v: %v sees of %v %v", m, other, sender, seen.Devs)
	}
}

// P13.4: a slot apart

func TestASlotApart(t *testing.T) {
	c := chance(134)
	for _, m := range lists() {
		for range 300 {
			slot := c.below(5 * m.Nodes)
			if (slot+1)%m.Nodes == 0 {
				slot++
			}
			a := api.Clock{Start: int64(c.below(1 << 20)), Slot: slot, Devs: c.devs(m, c.below(9))}
			b := api.Clock{Start: int64(c.below(1 << 20)), Slot: slot, Devs: c.devs(m, c.below(9))}
			wantASlotApart(t, m, a, b, c.upTo(m.Drift), c.upTo(m.Drift))
		}
		// The most that may be.
		wantASlotApart(t, m, api.Clock{Start: 100}, api.Clock{Start: 100}, m.Drift, -m.Drift)
		wantASlotApart(t, m, api.Clock{Start: 100}, api.Clock{Start: 100}, -m.Drift, m.Drift)
	}
}

// wantASlotApart asks that two clocks go on by just their drifts, and so come apart by no more than twice Drift.
func wantASlotApart(t *testing.T, m api.Medl, a, b api.Clock, driftA, driftB int) {
	t.Helper()
	x := must[api.Clock](t)(clock.Next(m, a, driftA))
	y := must[api.Clock](t)(clock.Next(m, b, driftB))
	more := (x.Start - y.Start) - (a.Start - b.Start)
	if more != int64(driftA-driftB) || more > int64(2*m.Drift) || more < int64(-2*m.Drift) {
		t.Errorf("%v: %v and %v, with %d and %d, come apart by %d", m, a, b, driftA, driftB, more)
	}
	if !slices.Equal(x.Devs, a.Devs) || !slices.Equal(y.Devs, b.Devs) {
		t.Errorf("%v: of %v and %v there are left %v and %v", m, a, b, x.Devs, y.Devs)
	}
}

// P13.5: together again

// drifts tells by how much a node's clock goes wrong in a slot.
type drifts func(node, slot int) int

// playSlot has all see the frame of the slot's node, and go on.
func playSlot(t *testing.T, m api.Medl, cluster []api.Clock, wrong drifts) []api.Clock {
	t.Helper()
	slot := cluster[0].Slot
	sender := slot % m.Nodes
	at := must[int64](t)(clock.Send(m, cluster[sender])) + int64(m.Delay)
	var l []api.Clock
	for node, c := range cluster {
		if node != sender {
			c = must[api.Clock](t)(clock.See(m, c, at))
		}
		l = append(l, must[api.Clock](t)(clock.Next(m, c, wrong(node, slot))))
	}
	return l
}

// spread is how far clocks are apart.
func spread(cluster []api.Clock) int64 {
	byStart := func(a, b api.Clock) int { return int(a.Start - b.Start) }
	return slices.MaxFunc(cluster, byStart).Start - slices.MinFunc(cluster, byStart).Start
}

// wantTogether plays rounds, and asks behind each that all are together, in one slot, and have forgotten the round.
func wantTogether(t *testing.T, m api.Medl, cluster []api.Clock, rounds int, wrong drifts) {
	t.Helper()
	if spread(cluster) > precision(m) {
		t.Fatalf("%v: apart from the first on", cluster)
	}
	for round := range rounds {
		before := cluster
		for range m.Nodes {
			cluster = playSlot(t, m, cluster, wrong)
		}
		if far := spread(cluster); far > int64(6*m.Nodes*m.Drift+2) {
			t.Errorf("%v: behind round %d, that began with %v, they are %d apart: %v", m, round, before, far, cluster)
		}
		for _, c := range cluster {
			if c.Slot != before[0].Slot+m.Nodes || len(c.Devs) != 0 {
				t.Errorf("behind round %d: %v", round, c)
			}
		}
	}
}

// clusters are clocks no further apart than Precision: at its ends in all ways, and somewhere within.
func clusters(m api.Medl, c *chance) [][]api.Clock {
	p := int(precision(m))
	var l [][]api.Clock
	for set := range 1 << m.Nodes {
		var ends []api.Clock
		for node := range m.Nodes {
			ends = append(ends, api.Clock{Start: int64(1000 + p*(set>>node&1)), Slot: 3 * m.Nodes})
		}
		l = append(l, ends)
	}
	for range 50 {
		var within []api.Clock
		for range m.Nodes {
			within = append(within, api.Clock{Start: int64(1000 + c.below(p+1)), Slot: 0})
		}
		l = append(l, within)
	}
	return l
}

func TestTogetherAgain(t *testing.T) {
	c := chance(135)
	for _, m := range lists() {
		for _, cluster := range clusters(m, &c) {
			fast := c.below(1 << m.Nodes)
			wantTogether(t, m, cluster, 2, func(node, _ int) int { return m.Drift - 2*m.Drift*(fast>>node&1) })
			wantTogether(t, m, cluster, 2, func(int, int) int { return c.upTo(m.Drift) })
		}
	}
}

// TestTogetherWhateverTheDrifts has each way in which each node is as fast, or as slow, as may be.
func TestTogetherWhateverTheDrifts(t *testing.T) {
	c := chance(136)
	m := plain(4, 3)
	for fast := range 1 << 16 {
		var cluster []api.Clock
		for range m.Nodes {
			cluster = append(cluster, api.Clock{Start: int64(1000 + int(precision(m))*c.below(2))})
		}
		wantTogether(t, m, cluster, 1, func(node, slot int) int { return m.Drift - 2*m.Drift*(fast>>(4*slot+node)&1) })
	}
}

func TestTogetherForLong(t *testing.T) {
	c := chance(137)
	for _, m := range []api.Medl{plain(4, 0), plain(5, 1), plain(8, 64), wide(plain(7, 20))} {
		cluster := clusters(m, &c)[1]
		wantTogether(t, m, cluster, 200, func(int, int) int { return c.upTo(m.Drift) })
		wantTogether(t, m, cluster, 50, func(node, _ int) int { return m.Drift * (1 - 2*(node%2)) })
	}
}

// TestClocksThatAreRightComeTogether asks where they come to: without drift, to the mean, and no more than rounding off.
func TestClocksThatAreRightComeTogether(t *testing.T) {
	m := plain(4, 0) // of Slot 138
	cluster := []api.Clock{{Start: 100}, {Start: 102}, {Start: 106}, {Start: 108}}
	for range 4 {
		cluster = playSlot(t, m, cluster, func(int, int) int { return 0 })
	}
	for node, c := range cluster {
		if !clock.Same(c, api.Clock{Start: 104 + 4*int64(m.Slot), Slot: 4}) {
			t.Errorf("node %d: %v", node, c)
		}
	}
}

// P13.6: within

func TestCorrectLiesWithin(t *testing.T) {
	c := chance(138)
	for _, m := range lists() {
		for range 500 {
			l := c.devs(m, c.below(maxNodes+1))
			if c.below(2) == 0 { // all on one side of the 0
				for i := range l {
					l[i] = max(l[i], -l[i])
				}
			}
			by := must[int64](t)(clock.Correct(m, api.Clock{Devs: l}))
			if all := append(l, 0); by < slices.Min(all) || by > slices.Max(all) {
				t.Errorf("Correct of %v: %d", l, by)
			}
		}
	}
}

// R3

// roomy is a clock whose Devs have room behind them, and all of that room.
func roomy(c *chance, m api.Medl) (api.Clock, []int64) {
	room := c.devs(m, 20)
	return api.Clock{Start: 1000, Slot: c.below(9), Devs: room[:c.below(10)]}, room
}

// copyOf is a list in memory of its own.
func copyOf(m api.Medl) api.Medl {
	m.Cold = slices.Clone(m.Cold)
	m.Modes = slices.Clone(m.Modes)
	for i, o := range m.Modes {
		m.Modes[i] = api.Mode{Data: slices.Clone(o.Data), Explicit: slices.Clone(o.Explicit), Next: slices.Clone(o.Next)}
	}
	return m
}

func TestNothingIsChanged(t *testing.T) {
	c := chance(139)
	for _, m := range lists() {
		list := copyOf(m)
		for range 100 {
			x, room := roomy(&c, m)
			before, was := slices.Clone(room), own(x)
			at := 1000 + int64(m.Gap+m.Delay)
			clock.Check(m, x)
			clock.Slot(m, x)
			clock.Send(m, x)
			clock.Window(m, x)
			clock.See(m, x, at)
			clock.See(m, x, -1)
			clock.Correct(m, x)
			clock.Next(m, x, m.Drift)
			clock.Next(m, x, m.Drift+1)
			clock.Join(m, at, 1)
			clock.Same(x, was)
			if !slices.Equal(room, before) || text(x) != text(was) || !medl.Same(m, list) {
				t.Fatalf("changed: %v, which was %v, or %v, which was %v, or %v", x, was, room, before, m)
			}
		}
	}
}

// spoil changes all Devs of a clock, and what is behind them.
func spoil(c api.Clock) {
	l := c.Devs[:cap(c.Devs)]
	for i := range l {
		l[i] = -77
	}
}

func TestNothingIsShared(t *testing.T) {
	c := chance(140)
	m := plain(8, 1)
	for range 500 {
		x, room := roomy(&c, m)
		if len(x.Devs) >= maxNodes {
			continue
		}
		before := slices.Clone(room)
		at := 1000 + int64(m.Gap+m.Delay) + 5
		for _, call := range []func() (api.Clock, api.Errno){
			func() (api.Clock, api.Errno) { return clock.See(m, x, at) },
			func() (api.Clock, api.Errno) { return clock.Next(m, x, 1) },
			func() (api.Clock, api.Errno) { return clock.Join(m, at, 2) },
		} {
			one, other := must[api.Clock](t)(call()), must[api.Clock](t)(call())
			want := text(other)
			spoil(one)
			if !slices.Equal(room, before) || text(other) != want {
				t.Fatalf("who changes what is answered of %v changes %v, or %v", x, room, other)
			}
			for i := range room {
				room[i] = 99
			}
			if text(other) != want {
				t.Fatalf("who changes what was handed in changes what was answered: %v, which was %v", other, want)
			}
			copy(room, before)
		}
	}
}

// TestTwoThatSeeFromOne asks that two clocks that follow one clock do not follow each other.
func TestTwoThatSeeFromOne(t *testing.T) {
	m := plain(4, 0)
	see := must[api.Clock](t)
	c := see(clock.See(m, api.Clock{Start: 100}, 140))
	a, b := see(clock.See(m, c, 141)), see(clock.See(m, c, 138))
	d := see(clock.Next(m, a, 0))
	a2 := see(clock.See(m, a, 155))
	for _, x := range []struct {
		c    api.Clock
		want []int64
	}{{c, []int64{1}}, {a, []int64{1, 2}}, {b, []int64{1, -1}}, {d, []int64{1, 2}}, {a2, []int64{1, 2, 16}}} {
		if !slices.Equal(x.c.Devs, x.want) {
			t.Errorf("%v; want %v", x.c.Devs, x.want)
		}
	}
}

// Bound

func TestBoundOfManyDevs(t *testing.T) {
	m := plain(4, 0)
	many := api.Clock{Devs: make([]int64, 1<<20)}
	wantCheck(t, m, many, errClock)
	wantSee(t, m, many, 39, api.Clock{}, errClock)
	wantCorrect(t, m, many, 0, errClock)
	wantNext(t, m, many, 0, api.Clock{}, errClock)
	if !clock.Same(many, own(many)) {
		t.Error("not Same: a clock of many Devs, twice")
	}
}

// P1, R2, R4

func TestNothingPanics(t *testing.T) {
	c := chance(141)
	ms := append(lists(), noLists()...)
	pick := func(edges ...int64) int64 {
		return append(edges, strangeMoments...)[c.below(len(edges)+len(strangeMoments))]
	}
	for range 100000 {
		m := ms[c.below(len(ms))]
		w := int64(m.Window)
		x := api.Clock{Start: pick(0, 5, 1000, lastStart, lastStart+1), Slot: int(pick(0, 3, 4, 7, maxSlots-1, maxSlots, maxSlots+1))}
		for range c.below(10) {
			x.Devs = append(x.Devs, pick(0, 1, -1, 2, w, -w, w, -w, 3, -3, -w, w, 5, -5))
		}
		at := pick(x.Start, x.Start+int64(m.Gap), x.Start+int64(m.Gap)+w)
		drift := int(pick(-1, 0, 1, int64(m.Drift)))
		pos := int(pick(0, 1, 3, int64(m.Nodes)))
		e := clock.Check(m, x)
		slot, e1 := clock.Slot(m, x)
		send, e2 := clock.Send(m, x)
		in, e3 := clock.Window(m, x)
		by, e4 := clock.Correct(m, x)
		if e1 != e || e2 != e || e3 != e || e4 != e {
			t.Fatalf("of %v, %v: %d, %d, %d, %d, %d", m, x, e, e1, e2, e3, e4)
		}
		if e != api.OK && (slot != api.Span{} || send != 0 || in != api.Span{} || by != 0) {
			t.Fatalf("of %v, %v, beside %d: %v, %d, %v, %d", m, x, e, slot, send, in, by)
		}
		wantAnswer(t, m, func() (api.Clock, api.Errno) { return clock.See(m, x, at) })
		wantAnswer(t, m, func() (api.Clock, api.Errno) { return clock.Next(m, x, drift) })
		wantAnswer(t, m, func() (api.Clock, api.Errno) { return clock.Join(m, at, pos) })
	}
}

// wantAnswer asks for a clock that may be, or an error alone, and for the same again.
func wantAnswer(t *testing.T, m api.Medl, call func() (api.Clock, api.Errno)) {
	t.Helper()
	c, e := call()
	if e == api.OK && clock.Check(m, c) != api.OK || e != api.OK && (c.Start != 0 || c.Slot != 0 || c.Devs != nil) {
		t.Fatalf("%v, %d, of %v", c, e, m)
	}
	if again, f := call(); f != e || !clock.Same(again, c) {
		t.Fatalf("%v, %d; and again: %v, %d", c, e, again, f)
	}
}

// TestMomentsNearTheEndsOfNumbers asks that nothing wraps round.
func TestMomentsNearTheEndsOfNumbers(t *testing.T) {
	for _, m := range lists() {
		for k := range int64(200) {
			for _, at := range []int64{math.MinInt64 + k, math.MinInt64 + int64(m.Gap+m.Delay) + k, math.MinInt64 + int64(m.Gap) - k, math.MaxInt64 - k} {
				wantJoin(t, m, at, 0, api.Clock{}, errClock)
				wantSee(t, m, api.Clock{Start: lastStart}, at, api.Clock{}, api.ErrArg)
				wantSee(t, m, api.Clock{}, at, api.Clock{}, api.ErrArg)
			}
		}
	}
}
