package modes_test

import (
	"math"
	"slices"
	"testing"

	"metronome/api"
	"metronome/cstate"
	"metronome/medl"
	"metronome/modes"
)

// stepped is the state in the next slot.
func stepped(t *testing.T, m api.Medl, c api.CState) api.CState {
	t.Helper()
	d, e := cstate.Step(c, m.Nodes)
	if e != api.OK {
		t.Fatalf("Step(%+v, %d): %d", c, m.Nodes, e)
	}
	return d
}

// behindRound is the state at the next round's beginning.
func behindRound(t *testing.T, m api.Medl, c api.CState) api.CState {
	t.Helper()
	for c = stepped(t, m, c); c.Pos != 0; {
		c = stepped(t, m, c)
	}
	return c
}

// taken is a state behind a frame that asks for what a host wants, as far as that may come.
func taken(t *testing.T, m api.Medl, c api.CState, want int) api.CState {
	t.Helper()
	req, e := modes.Ask(m, c, want)
	if e != api.OK {
		t.Fatalf("Ask(%+v, %+v, %d): %d", m, c, want, e)
	}
	d, e := modes.Take(m, c, req)
	if e != api.OK {
		t.Fatalf("Take(%+v, %+v, %d): %d", m, c, req, e)
	}
	return d
}

// The chapter's example

func TestExample(t *testing.T) {
	m := listOf(4, []bool{false, true}, []bool{false, false})
	c := api.CState{Time: 9, Pos: 1, Member: 15}
	wantAsk(t, m, c, 1, 2, api.OK)
	d := c
	d.Next = 2
	wantTake(t, m, c, 2, d, api.OK)
	if got := behindRound(t, m, d); got != (api.CState{Time: 10, Mode: 1, Member: 15}) {
		t.Errorf("behind the round: %+v", got)
	}
}

// P10.3: all alike

func TestWhatAskTellsTakeTakes(t *testing.T) {
	everyState(func(m api.Medl, c api.CState) {
		other := own(m)
		for want := -1; want < len(m.Modes); want++ {
			req, e := modes.Ask(m, c, want)
			if e != api.OK {
				t.Fatalf("Ask(%+v, %+v, %d): %d", m, c, want, e)
			}
			d := c
			if req != 0 {
				d.Next = want + 1
			}
			wantTake(t, m, c, req, d, api.OK)
			wantTake(t, other, c, req, d, api.OK)
		}
	})
}

// P10.4: once

func TestBehindATakeNothingMayComeTillTheRoundsEnd(t *testing.T) {
	everyState(func(m api.Medl, c api.CState) {
		for mode := range m.Modes {
			d := taken(t, m, c, mode)
			if d == c {
				continue
			}
			wantNothingMore(t, m, d)
			for d = stepped(t, m, d); d.Pos != 0; d = stepped(t, m, d) {
				wantNothingMore(t, m, d)
			}
			if d.Mode != mode || d.Next != 0 {
				t.Errorf("%d taken in %+v: behind the round %+v", mode, c, d)
			}
			for next := range m.Modes {
				if modes.May(m, d, next) != mayCome(m, d, next) {
					t.Errorf("%+v behind the round: May %d", d, next)
				}
			}
		}
	})
}

// wantNothingMore asks that no mode may come next, and that no frame that asks changes the state.
func wantNothingMore(t *testing.T, m api.Medl, c api.CState) {
	t.Helper()
	wantTold(t, m, c)
	for mode := range m.Modes {
		if modes.May(m, c, mode) {
			t.Errorf("May(%+v, %+v, %d)", m, c, mode)
		}
		wantAsk(t, m, c, mode, 0, api.OK)
		wantTake(t, m, c, mode+1, c, api.OK)
	}
}

func TestATakeThatChangedNothingLeavesAllAsItWas(t *testing.T) {
	m := listOf(4, []bool{true, true, false}, []bool{true, false, true}, []bool{true, true, false})
	c := api.CState{Pos: 1, Member: 15}
	for _, req := range []int{0, 1, 3} {
		wantTake(t, m, c, req, c, api.OK)
	}
	wantTold(t, m, c, 1)
	if d := behindRound(t, m, c); d.Mode != 0 || d.Next != 0 {
		t.Errorf("behind a round in which nothing was taken: %+v", d)
	}
}

// P10.5: as far as there are modes

func TestWhatIsReachedIsReachedInFewerChangesThanModes(t *testing.T) {
	for _, m := range lists() {
		count := len(m.Modes)
		everyPair(m, func(from, to int) {
			reached := leads(m, from, to, count-1)
			for _, changes := range []int{count - 1, count, count + 1, 64, math.MaxInt32, math.MaxInt - 1, math.MaxInt} {
				wantReach(t, m, from, to, changes, reached, api.OK)
			}
		})
	}
}

func TestWhatIsReachedStaysSo(t *testing.T) {
	for _, m := range lists() {
		everyPair(m, func(from, to int) {
			ahead := false
			for changes := range len(m.Modes) + 1 {
				is, _ := modes.Reach(m, from, to, changes)
				if ahead && !is {
					t.Errorf("Reach(%+v, %d, %d, %d) is false, of one change less true", m, from, to, changes)
				}
				ahead = is
			}
		})
	}
}

// TestReachIsWhatIsPlayed holds Reach against clusters whose hosts want all modes that there are, round by round.
func TestReachIsWhatIsPlayed(t *testing.T) {
	for _, m := range lists() {
		for from := range m.Modes {
			been := map[int]api.CState{from: {Mode: from, Pos: 2, Member: 3}}
			for changes := range len(m.Modes) + 1 {
				for to := range m.Modes {
					_, is := been[to]
					wantReach(t, m, from, to, changes, is, api.OK)
				}
				been = played(t, m, been)
			}
		}
	}
}

// played are the modes that there were, and those that came behind a round in one of them.
func played(t *testing.T, m api.Medl, been map[int]api.CState) map[int]api.CState {
	t.Helper()
	all := map[int]api.CState{}
	for mode, c := range been {
		all[mode] = c
		for want := range m.Modes {
			d := behindRound(t, m, taken(t, m, c, want))
			all[d.Mode] = d
		}
	}
	return all
}

// R3: nothing is changed or kept

func TestNoCallChangesItsList(t *testing.T) {
	all := noLists()
	for _, m := range plainLists() {
		all = append(all, noList{"a list", m})
	}
	for _, x := range all {
		m := own(x.m)
		for _, c := range someStates() {
			for _, n := range around(m) {
				modes.May(m, c, n)
				modes.Ask(m, c, n)
				modes.Take(m, c, n)
				modes.Reach(m, n, 0, 1)
				modes.Reach(m, 0, n, math.MaxInt)
			}
			told(m, c)
		}
		if !medl.Same(m, x.m) {
			t.Errorf("%s: %+v became %+v", x.what, x.m, m)
		}
	}
}

func TestNextsTellsWhatWasThereWhenItWasAsked(t *testing.T) {
	changes := []struct {
		what string
		do   func(api.Medl)
	}{
		{"no mode may come", func(m api.Medl) { clear(m.Modes[0].Next) }},
		{"all modes may come", func(m api.Medl) { copy(m.Modes[0].Next, []bool{true, true, true, true}) }},
		{"another mode in its place", func(m api.Medl) { m.Modes[0] = m.Modes[1] }},
		{"a mode that may not be", func(m api.Medl) { m.Modes[0] = api.Mode{} }},
		{"nobody may begin", func(m api.Medl) { clear(m.Cold) }},
		{"data that may not be", func(m api.Medl) { m.Modes[2].Data[0] = 9 }},
	}
	for _, x := range changes {
		m := listOf(4, []bool{false, true, false, true}, make([]bool, 4), make([]bool, 4), make([]bool, 4))
		seq := modes.Nexts(m, api.CState{})
		x.do(m)
		if l := slices.Collect(seq); !slices.Equal(l, []int{1, 3}) {
			t.Errorf("%s behind Nexts: %v", x.what, l)
		}
		m = listOf(4, []bool{false, true, false, true}, make([]bool, 4), make([]bool, 4), make([]bool, 4))
		var l []int
		for mode := range modes.Nexts(m, api.CState{}) {
			l = append(l, mode)
			x.do(m)
		}
		if !slices.Equal(l, []int{1, 3}) {
			t.Errorf("%s while Nexts tells: %v", x.what, l)
		}
	}
	m := listOf(4, []bool{false, true}, make([]bool, 2))
	m.Cold[0], m.Cold[1], m.Cold[2] = false, false, false
	seq := modes.Nexts(m, api.CState{})
	m.Cold[0] = true
	if l := slices.Collect(seq); len(l) != 0 {
		t.Errorf("Nexts of a list that may be only later: %v", l)
	}
}

// R4: the same calls answer the same

func TestSameCallsAnswerTheSame(t *testing.T) {
	for _, m := range plainLists() {
		other := own(m)
		for _, c := range fitting(m) {
			wantTold(t, other, c, told(m, c)...)
			for _, n := range around(m) {
				r, e := modes.Ask(m, c, n)
				wantAsk(t, other, c, n, r, e)
				d, e := modes.Take(m, c, n)
				wantTake(t, other, c, n, d, e)
			}
		}
	}
}

// P1: every call ends and none panics

func TestNoCallPanics(t *testing.T) {
	numbers := []int{math.MinInt, -1, 0, 1, 3, 4, 5, math.MaxInt}
	for _, x := range append(noLists(), noList{"a list", listOf(4, []bool{true, true}, []bool{true, true})}) {
		for _, mode := range numbers {
			for _, next := range numbers {
				c := api.CState{Time: next, Pos: mode, Mode: mode, Next: next, Member: mode}
				for _, n := range numbers {
					modes.May(x.m, c, n)
					modes.Ask(x.m, c, n)
					modes.Take(x.m, c, n)
					modes.Reach(x.m, mode, next, n)
				}
				told(x.m, c)
			}
		}
	}
}
