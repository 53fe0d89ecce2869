package modes_test

import (
	"math"
	"slices"
	"testing"

	"metronome/api"
	"metronome/medl"
	"metronome/modes"
)

// Lists.

// listOf is a list of some nodes whose modes let those come that nexts say.
func listOf(nodes int, nexts ...[]bool) api.Medl {
	m, _ := medl.Plain(nodes, 1)
	plain := m.Modes[0]
	m.Modes = nil
	for _, next := range nexts {
		m.Modes = append(m.Modes, api.Mode{Data: slices.Clone(plain.Data), Explicit: slices.Clone(plain.Explicit), Next: slices.Clone(next)})
	}
	return m
}

// truthsOf are n truths, as the digits of a number have it, the last one first; and what is left of the number.
func truthsOf(digits, n int) ([]bool, int) {
	var l []bool
	for range n {
		l = append(l, digits%2 == 1)
		digits /= 2
	}
	return l, digits
}

// numbered is the list of a number among those of so many modes; the number tells how many nodes there are, too.
func numbered(count, number int) api.Medl {
	var nexts [][]bool
	for left := number; len(nexts) < count; {
		var next []bool
		next, left = truthsOf(left, count)
		nexts = append(nexts, next)
	}
	return listOf(4+number%5, nexts...)
}

// plainLists are those that the chapter and the issues speak of.
func plainLists() []api.Medl {
	var l []api.Medl
	for count := 1; count <= 4; count++ {
		nothing, all, own, ring, chain := listing(count), listing(count), listing(count), listing(count), listing(count)
		for mode := range count {
			all[mode] = slices.Repeat([]bool{true}, count)
			own[mode][mode] = true
			ring[mode][(mode+1)%count] = true
			if mode+1 < count {
				chain[mode][mode+1] = true
			}
		}
		for _, nexts := range [][][]bool{nothing, all, own, ring, chain} {
			l = append(l, listOf(4, nexts...), listOf(8, nexts...))
		}
	}
	return l
}

// listing are truths of so many modes, of which none holds.
func listing(count int) [][]bool {
	l := make([][]bool, count)
	for mode := range l {
		l[mode] = make([]bool, count)
	}
	return l
}

// lists are many that may be: the plain ones, all of one mode and of two, and some of three and of four.
func lists() []api.Medl {
	l := plainLists()
	for _, x := range []struct{ count, numbers, step int }{{1, 2, 1}, {2, 16, 1}, {3, 512, 5}, {4, 65536, 601}} {
		for number := 0; number < x.numbers; number += x.step {
			l = append(l, numbered(x.count, number))
		}
	}
	return l
}

// own is a list in memory of its own.
func own(m api.Medl) api.Medl {
	m.Cold = slices.Clone(m.Cold)
	m.Modes = slices.Clone(m.Modes)
	for i, o := range m.Modes {
		m.Modes[i] = api.Mode{Data: slices.Clone(o.Data), Explicit: slices.Clone(o.Explicit), Next: slices.Clone(o.Next)}
	}
	return m
}

// noList is one that may not be, and why.
type noList struct {
	what string
	m    api.Medl
}

// noLists are lists that may not be, each by one thing; in all of them, as far as they have them, 0 lets 1 come.
func noLists() []noList {
	base := listOf(5, []bool{true, true}, []bool{true, true})
	l := []noList{{"nothing", api.Medl{}}}
	for _, x := range []struct {
		what string
		do   func(*api.Medl)
	}{
		{"Nodes -1", func(m *api.Medl) { m.Nodes = -1 }},
		{"a node less", func(m *api.Medl) { m.Nodes-- }},
		{"a node more", func(m *api.Medl) { m.Nodes++ }},
		{"the greatest Nodes", func(m *api.Medl) { m.Nodes = math.MaxInt }},
		{"no modes", func(m *api.Medl) { m.Modes = nil }},
		{"a mode less", func(m *api.Medl) { m.Modes = m.Modes[:1] }},
		{"a mode more", func(m *api.Medl) { m.Modes = append(m.Modes, m.Modes[0]) }},
		{"five modes", fiveModes},
		{"an empty mode", func(m *api.Medl) { m.Modes[1] = api.Mode{} }},
		{"Next of 0 too short", func(m *api.Medl) { m.Modes[0].Next = []bool{true} }},
		{"Next of 0 too long", func(m *api.Medl) { m.Modes[0].Next = slices.Repeat([]bool{true}, 9) }},
		{"Next of 1 nil", func(m *api.Medl) { m.Modes[1].Next = nil }},
		{"Next of 1 too short", func(m *api.Medl) { m.Modes[1].Next = []bool{true} }},
		{"Next of 1 too long", func(m *api.Medl) { m.Modes[1].Next = slices.Repeat([]bool{true}, 9) }},
		{"Data 9", func(m *api.Medl) { m.Modes[1].Data[4] = 9 }},
		{"Explicit too short", func(m *api.Medl) { m.Modes[1].Explicit = m.Modes[1].Explicit[:4] }},
		{"Cold of one", func(m *api.Medl) { m.Cold = []bool{true, false, false, false, false} }},
		{"Drift 65", func(m *api.Medl) { m.Drift = 65 }},
		{"Delay -1", func(m *api.Medl) { m.Delay = -1 }},
		{"Window one less", func(m *api.Medl) { m.Window-- }},
		{"Gap one less", func(m *api.Medl) { m.Gap-- }},
		{"Slot one less", func(m *api.Medl) { m.Slot-- }},
	} {
		m := own(base)
		x.do(&m)
		l = append(l, noList{x.what, m})
	}
	for _, nodes := range []int{0, 1, 2, 3, 9, 10} {
		m := own(base)
		m.Nodes, m.Cold = nodes, slices.Repeat([]bool{true}, nodes)
		for i := range m.Modes {
			m.Modes[i].Data, m.Modes[i].Explicit = make([]int, nodes), slices.Repeat([]bool{true}, nodes)
		}
		m.Window, m.Gap, m.Slot = 400_000, api.MaxGap, api.MaxSlot
		l = append(l, noList{"a list of too few or too many nodes", m})
	}
	return l
}

// fiveModes makes modes that agree with each other, but are too many.
func fiveModes(m *api.Medl) {
	o := m.Modes[0]
	o.Next = slices.Repeat([]bool{true}, 5)
	m.Modes = []api.Mode{o, o, o, o, o}
}

// States.

// fitting are states that fit a list: all Modes and Nexts, at a round's ends and within.
func fitting(m api.Medl) []api.CState {
	var l []api.CState
	count := len(m.Modes)
	for mode := range count {
		for next := 0; next <= count; next++ {
			l = append(l,
				api.CState{Mode: mode, Next: next},
				api.CState{Time: 7, Pos: 1, Mode: mode, Next: next, Member: 5},
				api.CState{Time: 255, Pos: m.Nodes - 1, Mode: mode, Next: next, Member: 1<<m.Nodes - 1},
			)
		}
	}
	return l
}

// unfit are states that do not fit a list, each by one number.
func unfit(m api.Medl) []api.CState {
	least, most, count := math.MinInt, math.MaxInt, len(m.Modes)
	var l []api.CState
	for _, x := range []struct {
		of  func(*api.CState) *int
		bad []int
	}{
		{func(c *api.CState) *int { return &c.Time }, []int{least, -1, 256, most}},
		{func(c *api.CState) *int { return &c.Pos }, []int{least, -1, m.Nodes, m.Nodes + 1, most}},
		{func(c *api.CState) *int { return &c.Member }, []int{least, -1, 1 << m.Nodes, 1<<m.Nodes | 5, most}},
		{func(c *api.CState) *int { return &c.Mode }, []int{least, -1, count, count + 1, 4, most}},
		{func(c *api.CState) *int { return &c.Next }, []int{least, -1, count + 1, count + 2, 5, most}},
	} {
		for _, bad := range x.bad {
			c := api.CState{Time: 7, Pos: 1, Member: 5}
			*x.of(&c) = bad
			l = append(l, c)
		}
	}
	return l
}

// someStates are states that fit a list of two modes, and some that do not.
func someStates() []api.CState {
	m := listOf(4, []bool{true, true}, []bool{true, true})
	return append(unfit(m), fitting(m)...)
}

// around are the numbers at the ends of what a mode may be, far beyond them, and all between.
func around(m api.Medl) []int {
	l := []int{math.MinInt, math.MinInt + 1, math.MinInt32, -2, -1}
	for n := range len(m.Modes) + 3 {
		l = append(l, n)
	}
	return append(l, 8, 64, math.MaxInt32, math.MaxInt-1, math.MaxInt)
}

// isOne tells whether a number is a mode.
func isOne(m api.Medl, mode int) bool { return 0 <= mode && mode < len(m.Modes) }

// mayCome is whether a mode may come next, as the chapter says it, of a list and a state that fit.
func mayCome(m api.Medl, c api.CState, mode int) bool {
	return isOne(m, mode) && mode != c.Mode && c.Next == 0 && m.Modes[c.Mode].Next[mode]
}

// everyState calls f with all lists and states that fit them.
func everyState(f func(m api.Medl, c api.CState)) {
	for _, m := range lists() {
		for _, c := range fitting(m) {
			f(m, c)
		}
	}
}

// told are the modes that Nexts goes through.
func told(m api.Medl, c api.CState) []int { return slices.Collect(modes.Nexts(m, c)) }

func wantTold(t *testing.T, m api.Medl, c api.CState, want ...int) {
	t.Helper()
	if l := told(m, c); !slices.Equal(l, want) {
		t.Errorf("Nexts of %+v in %+v: %v; want %v", c, m.Modes, l, want)
	}
}

func wantAsk(t *testing.T, m api.Medl, c api.CState, want, req int, err api.Errno) {
	t.Helper()
	if r, e := modes.Ask(m, c, want); r != req || e != err {
		t.Errorf("Ask(%+v, %+v, %d): %d, %d; want %d, %d", m, c, want, r, e, req, err)
	}
}

func wantTake(t *testing.T, m api.Medl, c api.CState, req int, want api.CState, err api.Errno) {
	t.Helper()
	if d, e := modes.Take(m, c, req); d != want || e != err {
		t.Errorf("Take(%+v, %+v, %d): %+v, %d; want %+v, %d", m, c, req, d, e, want, err)
	}
}

func wantReach(t *testing.T, m api.Medl, from, to, changes int, want bool, err api.Errno) {
	t.Helper()
	if is, e := modes.Reach(m, from, to, changes); is != want || e != err {
		t.Errorf("Reach(%+v, %d, %d, %d): %t, %d; want %t, %d", m, from, to, changes, is, e, want, err)
	}
}

func TestListsAreWhatTheyShouldBe(t *testing.T) {
	for _, m := range lists() {
		if e := medl.Check(m); e != api.OK {
			t.Fatalf("Check(%+v): %d", m, e)
		}
	}
	for _, x := range noLists() {
		if e := medl.Check(x.m); e != api.ErrMedl {
			t.Errorf("Check of %s: %d", x.what, e)
		}
	}
}

// P10.1: May and Nexts

func TestMayByHand(t *testing.T) {
	m := listOf(4, []bool{true, true, false}, []bool{false, false, true}, []bool{true, true, true})
	for _, x := range []struct {
		c    api.CState
		mode int
		may  bool
	}{
		{api.CState{}, 1, true},
		{api.CState{}, 0, false}, // it lets itself come, but is no other one
		{api.CState{}, 2, false},
		{api.CState{}, 3, false},
		{api.CState{}, -1, false},
		{api.CState{Mode: 1}, 2, true},
		{api.CState{Mode: 1}, 0, false}, // 0 lets 1 come, but 1 not 0
		{api.CState{Mode: 2}, 0, true},
		{api.CState{Mode: 2}, 1, true},
		{api.CState{Mode: 2}, 2, false},
		{api.CState{Mode: 3}, 0, false},
		{api.CState{Next: 1}, 1, false},
		{api.CState{Next: 2}, 1, false},
		{api.CState{Next: 3}, 1, false},
		{api.CState{Next: 4}, 1, false},
		{api.CState{Time: 255, Pos: 3, Member: 15}, 1, true},
		{api.CState{Time: 256}, 1, false},
		{api.CState{Pos: 4}, 1, false},
		{api.CState{Member: 16}, 1, false},
	} {
		if may := modes.May(m, x.c, x.mode); may != x.may {
			t.Errorf("May(%+v, %d): %t", x.c, x.mode, may)
		}
	}
}

func TestMayOfAllThatFits(t *testing.T) {
	everyState(func(m api.Medl, c api.CState) {
		for _, mode := range around(m) {
			if may := modes.May(m, c, mode); may != mayCome(m, c, mode) {
				t.Fatalf("May(%+v, %+v, %d): %t", m, c, mode, may)
			}
		}
	})
}

func TestMayOfWhatDoesNotFit(t *testing.T) {
	for _, m := range plainLists() {
		for _, c := range unfit(m) {
			for _, mode := range around(m) {
				if modes.May(m, c, mode) {
					t.Errorf("May(%+v, %+v, %d)", m, c, mode)
				}
			}
		}
	}
}

func TestMayOfNoList(t *testing.T) {
	for _, x := range noLists() {
		for _, mode := range around(x.m) {
			if modes.May(x.m, api.CState{}, mode) {
				t.Errorf("May of %s: %d", x.what, mode)
			}
		}
	}
}

func TestNextsByHand(t *testing.T) {
	m := listOf(6, []bool{true, true, true, true}, []bool{true, false, false, true}, []bool{false, false, true, false}, []bool{true, true, true, false})
	wantTold(t, m, api.CState{}, 1, 2, 3)
	wantTold(t, m, api.CState{Mode: 1}, 0, 3)
	wantTold(t, m, api.CState{Mode: 2})
	wantTold(t, m, api.CState{Mode: 3, Time: 255, Pos: 5, Member: 63}, 0, 1, 2)
	wantTold(t, m, api.CState{Mode: 1, Next: 1})
	wantTold(t, m, api.CState{Mode: 1, Next: 4})
	wantTold(t, m, api.CState{Mode: 4})
	wantTold(t, m, api.CState{Pos: 6})
}

func TestNextsAreThoseThatMayCome(t *testing.T) {
	everyState(func(m api.Medl, c api.CState) {
		var want []int
		for mode := range len(m.Modes) {
			if mayCome(m, c, mode) {
				want = append(want, mode)
			}
		}
		wantTold(t, m, c, want...)
	})
}

func TestNextsOfWhatDoesNotFit(t *testing.T) {
	for _, m := range plainLists() {
		for _, c := range unfit(m) {
			wantTold(t, m, c)
		}
	}
}

func TestNextsOfNoList(t *testing.T) {
	for _, x := range noLists() {
		for mode := range 4 {
			if l := told(x.m, api.CState{Mode: mode}); len(l) != 0 {
				t.Errorf("Nexts of %s: %v", x.what, l)
			}
		}
	}
}

func TestNextsAskedAgain(t *testing.T) {
	m := listOf(4, slices.Repeat([]bool{true}, 4), slices.Repeat([]bool{true}, 4), slices.Repeat([]bool{true}, 4), slices.Repeat([]bool{true}, 4))
	seq := modes.Nexts(m, api.CState{Mode: 1})
	for range 3 {
		if l := slices.Collect(seq); !slices.Equal(l, []int{0, 2, 3}) {
			t.Errorf("Nexts again: %v", l)
		}
	}
	var pairs []int
	for a := range seq {
		for b := range seq {
			pairs = append(pairs, 10*a+b)
		}
	}
	if !slices.Equal(pairs, []int{0, 2, 3, 20, 22, 23, 30, 32, 33}) {
		t.Errorf("Nexts within Nexts: %v", pairs)
	}
}

func TestNextsLeftEarly(t *testing.T) {
	m := listOf(4, slices.Repeat([]bool{true}, 4), slices.Repeat([]bool{true}, 4), slices.Repeat([]bool{true}, 4), slices.Repeat([]bool{true}, 4))
	seq := modes.Nexts(m, api.CState{Mode: 3})
	for most := 1; most <= 3; most++ {
		var l []int
		seq(func(mode int) bool {
			l = append(l, mode)
			return len(l) < most
		})
		if !slices.Equal(l, []int{0, 1, 2}[:most]) {
			t.Errorf("Nexts left behind %d: %v", most, l)
		}
	}
	if l := slices.Collect(seq); !slices.Equal(l, []int{0, 1, 2}) {
		t.Errorf("Nexts behind one that was left early: %v", l)
	}
}

// P10.2: Ask

func TestAskByHand(t *testing.T) {
	m := listOf(4, []bool{true, true, false}, []bool{false, false, true}, []bool{true, false, true})
	wantAsk(t, m, api.CState{}, 1, 2, api.OK)
	wantAsk(t, m, api.CState{}, 2, 0, api.OK)
	wantAsk(t, m, api.CState{}, 0, 0, api.OK)
	wantAsk(t, m, api.CState{}, -1, 0, api.OK)
	wantAsk(t, m, api.CState{}, 3, 0, api.ErrMode)
	wantAsk(t, m, api.CState{}, -2, 0, api.ErrMode)
	wantAsk(t, m, api.CState{Mode: 1}, 2, 3, api.OK)
	wantAsk(t, m, api.CState{Mode: 2}, 0, 1, api.OK)
	wantAsk(t, m, api.CState{Mode: 2}, 2, 0, api.OK)
	wantAsk(t, m, api.CState{Mode: 1, Next: 1}, 2, 0, api.OK)
	wantAsk(t, m, api.CState{Mode: 1, Next: 3}, 2, 0, api.OK)
	wantAsk(t, m, api.CState{Mode: 1, Next: 3}, 3, 0, api.ErrMode)
	wantAsk(t, m, api.CState{Mode: 3}, 0, 0, api.ErrState)
	wantAsk(t, m, api.CState{Next: 4}, 1, 0, api.ErrState)
	wantAsk(t, api.Medl{}, api.CState{}, 0, 0, api.ErrMedl)
}

func TestAskOfAllThatFits(t *testing.T) {
	everyState(func(m api.Medl, c api.CState) {
		for _, want := range around(m) {
			switch {
			case want != -1 && !isOne(m, want):
				wantAsk(t, m, c, want, 0, api.ErrMode)
			case mayCome(m, c, want):
				wantAsk(t, m, c, want, want+1, api.OK)
			default:
				wantAsk(t, m, c, want, 0, api.OK)
			}
		}
	})
}

func TestAskRefusesAStateAheadOfAMode(t *testing.T) {
	for _, m := range plainLists() {
		for _, c := range unfit(m) {
			for _, want := range around(m) {
				wantAsk(t, m, c, want, 0, api.ErrState)
			}
		}
	}
}

func TestAskRefusesAListAheadOfAll(t *testing.T) {
	for _, x := range noLists() {
		for _, c := range someStates() {
			for _, want := range around(x.m) {
				wantAsk(t, x.m, c, want, 0, api.ErrMedl)
			}
		}
	}
}

// P10.2: Take

func TestTakeByHand(t *testing.T) {
	m := listOf(4, []bool{true, true, false}, []bool{false, false, true}, []bool{true, false, true})
	c := api.CState{Time: 3, Pos: 2, Member: 11}
	takes := func(c api.CState, next int) api.CState {
		c.Next = next
		return c
	}
	wantTake(t, m, c, 2, takes(c, 2), api.OK)
	wantTake(t, m, c, 0, c, api.OK)
	wantTake(t, m, c, 1, c, api.OK)
	wantTake(t, m, c, 3, c, api.OK)
	wantTake(t, m, c, 4, api.CState{}, api.ErrMode)
	wantTake(t, m, c, -1, api.CState{}, api.ErrMode)
	for next := 1; next <= 3; next++ {
		wantTake(t, m, takes(c, next), 2, takes(c, next), api.OK)
		wantTake(t, m, takes(c, next), 0, takes(c, next), api.OK)
	}
	wantTake(t, m, takes(c, 4), 2, api.CState{}, api.ErrState)
	wantTake(t, m, api.CState{Mode: 3}, 0, api.CState{}, api.ErrState)
	wantTake(t, api.Medl{}, c, 2, api.CState{}, api.ErrMedl)
}

func TestTakeOfAllThatFits(t *testing.T) {
	everyState(func(m api.Medl, c api.CState) {
		for _, req := range around(m) {
			want := c
			switch {
			case req < 0 || req > len(m.Modes):
				wantTake(t, m, c, req, api.CState{}, api.ErrMode)
				continue
			case req != 0 && mayCome(m, c, req-1):
				want.Next = req
			}
			wantTake(t, m, c, req, want, api.OK)
		}
	})
}

func TestTakeRefusesAStateAheadOfAMode(t *testing.T) {
	for _, m := range plainLists() {
		for _, c := range unfit(m) {
			for _, req := range around(m) {
				wantTake(t, m, c, req, api.CState{}, api.ErrState)
			}
		}
	}
}

func TestTakeRefusesAListAheadOfAll(t *testing.T) {
	for _, x := range noLists() {
		for _, c := range someStates() {
			for _, req := range around(x.m) {
				wantTake(t, x.m, c, req, api.CState{}, api.ErrMedl)
			}
		}
	}
}

// P10.2: Reach

// leads tells whether a way leads from one mode to another one, trying all of at most so many steps.
func leads(m api.Medl, from, to, steps int) bool {
	if from == to {
		return true
	}
	if steps == 0 {
		return false
	}
	for next, lets := range m.Modes[from].Next {
		if lets && leads(m, next, to, steps-1) {
			return true
		}
	}
	return false
}

// everyPair calls f with all pairs of a list's modes.
func everyPair(m api.Medl, f func(from, to int)) {
	for from := range m.Modes {
		for to := range m.Modes {
			f(from, to)
		}
	}
}

func TestReachByHand(t *testing.T) {
	chain := listOf(4, []bool{false, true, false, false}, []bool{false, false, true, false}, []bool{false, false, false, true}, []bool{false, false, false, false})
	for changes, last := range []int{0, 1, 2, 3, 3} {
		for to := range 4 {
			wantReach(t, chain, 0, to, changes, to <= last, api.OK)
		}
		wantReach(t, chain, 3, 0, changes, false, api.OK)
		wantReach(t, chain, 3, 3, changes, true, api.OK)
	}
	back := listOf(4, []bool{false, false, false, false}, []bool{true, false, false, false}, []bool{false, true, false, false}, []bool{false, false, true, false})
	for changes, first := range []int{3, 2, 1, 0, 0} {
		for to := range 4 {
			wantReach(t, back, 3, to, changes, to >= first, api.OK)
		}
	}
	ring := listOf(4, []bool{false, true, false}, []bool{false, false, true}, []bool{true, false, false})
	wantReach(t, ring, 0, 2, 1, false, api.OK)
	wantReach(t, ring, 0, 2, 2, true, api.OK)
	wantReach(t, ring, 2, 0, 1, true, api.OK)
	wantReach(t, ring, 2, 0, 0, false, api.OK)
	wantReach(t, ring, 1, 1, 0, true, api.OK)
	still := listOf(4, []bool{true, false}, []bool{false, true})
	wantReach(t, still, 0, 1, math.MaxInt, false, api.OK)
	wantReach(t, still, 0, 0, 0, true, api.OK)
	wantReach(t, still, 0, 0, -1, false, api.ErrArg)
	wantReach(t, still, 0, 2, 0, false, api.ErrArg)
	wantReach(t, still, 2, 0, 0, false, api.ErrArg)
	wantReach(t, still, 2, 2, 0, false, api.ErrArg)
	wantReach(t, still, -1, 0, 0, false, api.ErrArg)
	wantReach(t, still, 0, -1, 0, false, api.ErrArg)
	wantReach(t, still, -1, -1, 0, false, api.ErrArg)
	wantReach(t, api.Medl{}, 0, 0, 0, false, api.ErrMedl)
}

func TestReachOfAllWays(t *testing.T) {
	for _, m := range lists() {
		everyPair(m, func(from, to int) {
			for changes := range len(m.Modes) + 2 {
				wantReach(t, m, from, to, changes, leads(m, from, to, changes), api.OK)
			}
		})
	}
}

func TestReachRefusesModesAndChanges(t *testing.T) {
	for _, m := range plainLists() {
		for _, from := range around(m) {
			for _, to := range around(m) {
				for _, changes := range []int{math.MinInt, -1, 0, 1, math.MaxInt} {
					if !isOne(m, from) || !isOne(m, to) || changes < 0 {
						wantReach(t, m, from, to, changes, false, api.ErrArg)
					}
				}
			}
		}
	}
}

func TestReachRefusesAListAheadOfAll(t *testing.T) {
	for _, x := range noLists() {
		for _, from := range around(x.m) {
			for _, to := range []int{-1, 0, 1, 9} {
				for _, changes := range []int{math.MinInt, -1, 0, 1, math.MaxInt} {
					wantReach(t, x.m, from, to, changes, false, api.ErrMedl)
				}
			}
		}
	}
}
