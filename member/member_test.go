package member_test

import (
	"math"
	"slices"
	"testing"

	"metronome/api"
	"metronome/member"
)

const mostCount = 1_048_576 // 2^20, up to which frames are counted

// power is 2^n.
func power(n int) int {
	p := 1
	for range n {
		p *= 2
	}
	return p
}

// isIn tells whether a node is in a set, reckoned by dividing.
func isIn(set, node int) bool { return set/power(node)%2 == 1 }

// with is a set with a node.
func with(set, node int) int {
	if isIn(set, node) {
		return set
	}
	return set + power(node)
}

// without is a set without a node.
func without(set, node int) int {
	if isIn(set, node) {
		return set - power(node)
	}
	return set
}

// mayBe is whether a view may be, as the chapter says it.
func mayBe(m api.Member) bool {
	last, known := map[int]int{4: 15, 5: 31, 6: 63, 7: 127, 8: 255}[m.N]
	if !known || !slices.Contains([]int{0, 1, 2}, m.Stage) {
		return false
	}
	for _, x := range [][2]int{{m.Id, m.N - 1}, {m.First, m.N - 1}, {m.Set, last}, {m.Acc, mostCount}, {m.Fail, mostCount}} {
		if x[0] < 0 || x[0] > x[1] {
			return false
		}
	}
	return (m.Stage == 0 || isIn(m.Set, m.Id)) && (m.Stage != 2 || m.First != m.Id)
}

// everyView calls f with all views that may be with n nodes, counts apart.
func everyView(n int, f func(api.Member)) {
	for id := range n {
		for set := range power(n) {
			for first := range n {
				for stage := range 3 {
					if m := (api.Member{Id: id, N: n, Set: set, Stage: stage, First: first}); mayBe(m) {
						f(m)
					}
				}
			}
		}
	}
}

// everySender calls f with all views that may be, counts apart, and all senders that they may hear.
func everySender(f func(m api.Member, sender int)) {
	for n := 4; n <= 8; n++ {
		everyView(n, func(m api.Member) {
			for sender := range n {
				if sender != m.Id {
					f(m, sender)
				}
			}
		})
	}
}

// field is one of a view's, with the edges of what it may be with n nodes.
type field struct {
	name  string
	of    func(*api.Member) *int
	edges func(n int) []int
}

func fields() []field {
	nodes := func(n int) []int { return []int{-1, 0, n - 1, n} }
	counts := func(int) []int { return []int{-1, 0, mostCount, mostCount + 1} }
	return []field{
		{"Id", func(m *api.Member) *int { return &m.Id }, nodes},
		{"N", func(m *api.Member) *int { return &m.N }, func(int) []int { return []int{-1, 0, 3, 4, 8, 9, 63, 64, 65} }},
		{"Set", func(m *api.Member) *int { return &m.Set }, func(n int) []int { return []int{-1, 0, power(n) - 1, power(n), 1 << 62} }},
		{"Acc", func(m *api.Member) *int { return &m.Acc }, counts},
		{"Fail", func(m *api.Member) *int { return &m.Fail }, counts},
		{"Stage", func(m *api.Member) *int { return &m.Stage }, func(int) []int { return []int{-1, 0, 1, 2, 3} }},
		{"First", func(m *api.Member) *int { return &m.First }, nodes},
	}
}

// far are numbers far beyond all limits.
func far() []int {
	return []int{math.MinInt, math.MinInt + 1, math.MinInt32, math.MaxInt32, math.MaxInt - 1, math.MaxInt}
}

// wrong are views that may not be, each by one field, or by two that do not fit.
func wrong() []api.Member {
	var l []api.Member
	for n := 4; n <= 8; n++ {
		for stage := range 3 {
			m := api.Member{Id: 1, N: n, Set: 6, Acc: 2, Fail: 1, Stage: stage, First: 2}
			for _, f := range fields() {
				for _, v := range append(f.edges(n), far()...) {
					o := m
					*f.of(&o) = v
					if !mayBe(o) {
						l = append(l, o)
					}
				}
			}
		}
	}
	return append(l, api.Member{})
}

// chance is a row of numbers by a fixed rule, another one for another start.
type chance uint64

func (c *chance) below(n int) int {
	*c = *c*6364136223846793005 + 1442695040888963407
	return int(uint64(*c>>33) % uint64(n))
}

// view is one that may be.
func (c *chance) view() api.Member {
	for {
		n := 4 + c.below(5)
		m := api.Member{Id: c.below(n), N: n, Set: c.below(power(n)), Acc: c.count(), Fail: c.count(), Stage: c.below(3), First: c.below(n)}
		if mayBe(m) {
			return m
		}
	}
}

// count is a number of frames, often a small one.
func (c *chance) count() int {
	return []int{c.below(6), c.below(6), c.below(mostCount), mostCount - 1, mostCount}[c.below(5)]
}

// wantError asks for an error, and no view beside it.
func wantError(t *testing.T, what string, of any, m api.Member, e, want api.Errno) {
	t.Helper()
	if e != want || m != (api.Member{}) {
		t.Errorf("%s of %+v: %+v, %d; want no view, %d", what, of, m, e, want)
	}
}

// P9.1: Check

func wantCheck(t *testing.T, m api.Member, may bool) {
	t.Helper()
	want := api.OK
	if !may {
		want = api.ErrMember
	}
	if e := member.Check(m); e != want {
		t.Errorf("Check(%+v): %d; want %d", m, e, want)
	}
}

func TestCheckByHand(t *testing.T) {
	for _, x := range []struct {
		m   api.Member
		may bool
	}{
		{api.Member{N: 4}, true},
		{api.Member{}, false},
		{api.Member{N: 3}, false},
		{api.Member{N: 9}, false},
		{api.Member{N: 8, Id: 7, First: 7, Set: 255}, true},
		{api.Member{N: 8, Id: 8}, false},
		{api.Member{N: 8, First: 8}, false},
		{api.Member{N: 4, Id: -1}, false},
		{api.Member{N: 4, First: -1}, false},
		{api.Member{N: 4, Set: 15}, true},
		{api.Member{N: 4, Set: 16}, false},
		{api.Member{N: 5, Set: 16}, true},
		{api.Member{N: 8, Set: 256}, false},
		{api.Member{N: 4, Set: -1}, false},
		{api.Member{N: 4, Acc: mostCount, Fail: mostCount}, true},
		{api.Member{N: 4, Acc: mostCount + 1}, false},
		{api.Member{N: 4, Fail: mostCount + 1}, false},
		{api.Member{N: 4, Acc: -1}, false},
		{api.Member{N: 4, Fail: -1}, false},
		{api.Member{N: 4, Stage: -1}, false},
		{api.Member{N: 4, Set: 15, Stage: 3}, false},
		{api.Member{N: 4, Id: 2, Set: 4, Stage: 1}, true},
		{api.Member{N: 4, Id: 2, Set: 11, Stage: 1}, false}, // all but Id
		{api.Member{N: 4, Id: 2, Set: 11, Stage: 0}, true},
		{api.Member{N: 4, Id: 2, Set: 4, Stage: 2, First: 3}, true},
		{api.Member{N: 4, Id: 2, Set: 11, Stage: 2, First: 3}, false},
		{api.Member{N: 4, Id: 2, Set: 15, Stage: 2, First: 2}, false},
		{api.Member{N: 4, Id: 2, Set: 15, Stage: 1, First: 2}, true}, // First counts in Stage 2 alone
		{api.Member{N: 4, Id: 2, Set: 15, Stage: 0, First: 2}, true},
		{api.Member{N: 4, Id: 2, Set: 15, Stage: 1, First: 3}, true},
	} {
		wantCheck(t, x.m, x.may)
	}
}

// TestCheckOfFields has all views that may be and many that may not, held against the chapter.
func TestCheckOfFields(t *testing.T) {
	for n := 3; n <= 9; n++ {
		for id := -1; id <= n; id++ {
			for first := -1; first <= n; first++ {
				for set := -1; set <= power(n); set++ {
					for stage := -1; stage <= 3; stage++ {
						m := api.Member{Id: id, N: n, Set: set, Stage: stage, First: first}
						wantCheck(t, m, mayBe(m))
					}
				}
			}
		}
	}
}

// TestCheckOfEdges has each field at its edges and far beyond, and each two of them.
func TestCheckOfEdges(t *testing.T) {
	for n := 4; n <= 8; n++ {
		for stage := range 3 {
			for _, m := range []api.Member{
				{Id: 1, N: n, Set: 6, Acc: 2, Fail: 1, Stage: stage, First: 2},
				{Id: n - 1, N: n, Set: power(n) - 1, Acc: mostCount, Fail: mostCount, Stage: stage},
			} {
				wantCheck(t, m, true)
				checkPairs(t, m, n)
			}
		}
	}
}

func checkPairs(t *testing.T, m api.Member, n int) {
	t.Helper()
	for _, f := range fields() {
		for _, v := range append(f.edges(n), far()...) {
			for _, g := range fields() {
				for _, w := range append(g.edges(n), far()...) {
					o := m
					*f.of(&o) = v
					*g.of(&o) = w
					wantCheck(t, o, mayBe(o))
				}
			}
		}
	}
}

func TestWrongViews(t *testing.T) {
	if len(wrong()) < 500 {
		t.Fatal("too few views that may not be", len(wrong()))
	}
	for _, m := range wrong() {
		wantCheck(t, m, false)
	}
}

// P9.1: New

func wantNew(t *testing.T, id, n, set int) {
	t.Helper()
	want := api.Member{Id: id, N: n, Set: set}
	m, e := member.New(id, n, set)
	if !mayBe(want) {
		wantError(t, "New", want, m, e, api.ErrMember)
	} else if e != api.OK || m != want {
		t.Errorf("New(%d, %d, %d): %+v, %d; want %+v", id, n, set, m, e, want)
	}
}

func TestNewByHand(t *testing.T) {
	m, e := member.New(1, 5, 0x1f)
	if e != api.OK || m != (api.Member{Id: 1, N: 5, Set: 0x1f}) {
		t.Errorf("New(1, 5, 0x1f): %+v, %d", m, e)
	}
	m, e = member.New(2, 4, 0)
	if e != api.OK || m != (api.Member{Id: 2, N: 4}) {
		t.Errorf("New(2, 4, 0): %+v, %d", m, e)
	}
	m, e = member.New(4, 4, 0)
	wantError(t, "New", "4, 4, 0", m, e, api.ErrMember)
	m, e = member.New(0, 4, 16)
	wantError(t, "New", "0, 4, 16", m, e, api.ErrMember)
	m, e = member.New(0, 3, 1)
	wantError(t, "New", "0, 3, 1", m, e, api.ErrMember)
	m, e = member.New(0, 9, 1)
	wantError(t, "New", "0, 9, 1", m, e, api.ErrMember)
}

func TestNewOfAll(t *testing.T) {
	for n := 2; n <= 10; n++ {
		for id := -2; id <= n+1; id++ {
			for set := -2; set <= power(n)+1; set++ {
				wantNew(t, id, n, set)
			}
		}
	}
	edges := append(far(), -1, 0, 1, 3, 4, 7, 8, 15, 16, 63, 64, 65, 255, 256)
	for _, id := range edges {
		for _, n := range edges {
			for _, set := range edges {
				wantNew(t, id, n, set)
			}
		}
	}
}

// P9.1: In

func TestIn(t *testing.T) {
	for n := 4; n <= 8; n++ {
		everyView(n, func(m api.Member) {
			if got := member.In(m); got != isIn(m.Set, m.Id) {
				t.Errorf("In(%+v): %t", m, got)
			}
		})
	}
	if member.In(api.Member{Id: 2, N: 4, Set: 11}) || !member.In(api.Member{Id: 2, N: 4, Set: 4}) {
		t.Error("In by hand")
	}
}

func TestInOfViewsThatMayNotBe(t *testing.T) {
	for _, m := range wrong() {
		if member.In(m) {
			t.Errorf("In(%+v)", m)
		}
	}
	// Id's bit is in Set, and another field is wrong.
	for _, m := range []api.Member{{N: 3, Set: 1}, {N: 9, Set: 1}, {N: 4, Set: 17}, {N: 4, Set: -1}, {N: 4, Set: 1, Stage: 3}, {N: 4, Set: 1, Acc: -1}, {N: 4, Set: 1, First: 4}, {N: 4, Set: 1, Stage: 2}} {
		if member.In(m) {
			t.Errorf("In(%+v)", m)
		}
	}
}

// P9.2: Views

// tried are the sets with which a frame should be tried, as the chapter says it, of a view and a sender that may be.
func tried(m api.Member, sender int) []int {
	b := with(m.Set, sender)
	switch {
	case m.Stage == 0:
		return []int{b}
	case m.Stage == 1:
		return []int{with(b, m.Id), without(b, m.Id)}
	case sender == m.First:
		return []int{with(b, m.Id)}
	default:
		return []int{without(with(b, m.Id), m.First), without(with(b, m.First), m.Id)}
	}
}

// told are the sets that Views tells, whose numbers must be 0, 1, ..
func told(t *testing.T, m api.Member, sender int) []int {
	t.Helper()
	var l []int
	for i, set := range member.Views(m, sender) {
		if i != len(l) {
			t.Errorf("Views(%+v, %d) tells number %d behind %d sets", m, sender, i, len(l))
		}
		l = append(l, set)
	}
	return l
}

func wantViews(t *testing.T, m api.Member, sender int, want ...int) {
	t.Helper()
	if l := told(t, m, sender); !slices.Equal(l, want) {
		t.Errorf("Views(%+v, %d): %b; want %b", m, sender, l, want)
	}
}

func TestViewsByHand(t *testing.T) {
	all := api.Member{Id: 0, N: 4, Set: 0b1111}
	wantViews(t, all, 1, 0b1111)
	wantViews(t, api.Member{Id: 0, N: 4, Set: 0b0101}, 1, 0b0111) // the sender is one more
	wantViews(t, api.Member{Id: 0, N: 4, Set: 0b0100}, 1, 0b0110) // the node itself is none
	all.Stage = 1
	wantViews(t, all, 1, 0b1111, 0b1110)
	wantViews(t, all, 3, 0b1111, 0b1110)
	wantViews(t, api.Member{Id: 3, N: 5, Set: 0b01000, Stage: 1}, 4, 0b11000, 0b10000)
	all.Stage, all.First = 2, 1
	wantViews(t, all, 2, 0b1101, 0b1110)
	wantViews(t, all, 3, 0b1101, 0b1110)
	wantViews(t, all, 1, 0b1111) // First itself
	wantViews(t, api.Member{Id: 0, N: 4, Set: 0b0001, Stage: 2, First: 1}, 2, 0b0101, 0b0110)
	wantViews(t, api.Member{Id: 0, N: 4, Set: 0b0001, Stage: 2, First: 1}, 1, 0b0011)
	wantViews(t, api.Member{Id: 7, N: 8, Set: 0b10110001, Stage: 2, First: 0}, 3, 0b10111000, 0b00111001)
	// First says nothing in another Stage.
	wantViews(t, api.Member{Id: 0, N: 4, Set: 0b1111, First: 1}, 1, 0b1111)
	wantViews(t, api.Member{Id: 0, N: 4, Set: 0b1111, First: 1}, 2, 0b1111)
	wantViews(t, api.Member{Id: 0, N: 4, Set: 0b1111, Stage: 1, First: 1}, 1, 0b1111, 0b1110)
}

func TestViewsOfAll(t *testing.T) {
	everySender(func(m api.Member, sender int) {
		wantViews(t, m, sender, tried(m, sender)...)
	})
}

// noOther are senders that are not another node of n than id.
func noOther(id, n int) []int {
	return append(far(), -64, -8, -1, id, n, n+1, 16, 63, 64, 65)
}

func TestViewsOfNoOtherNode(t *testing.T) {
	for n := 4; n <= 8; n++ {
		for id := range n {
			for stage := range 3 {
				m := api.Member{Id: id, N: n, Set: power(n) - 1, Stage: stage, First: (id + 1) % n}
				for _, sender := range noOther(id, n) {
					wantViews(t, m, sender)
				}
			}
		}
	}
}

func TestViewsOfViewsThatMayNotBe(t *testing.T) {
	for _, m := range wrong() {
		for _, sender := range append(noOther(m.Id, m.N), 0, 1, 2, 3, 7) {
			wantViews(t, m, sender)
		}
	}
}

func TestViewsAskedAgain(t *testing.T) {
	everySender(func(m api.Member, sender int) {
		views := member.Views(m, sender)
		for range 3 {
			n := 0
			for i, set := range views {
				if want := tried(m, sender); i != n || i >= len(want) || set != want[i] {
					t.Fatalf("Views(%+v, %d), asked again: %d, %b; want %b", m, sender, i, set, want)
				}
				n++
			}
			if n != len(tried(m, sender)) {
				t.Fatalf("Views(%+v, %d), asked again, tells %d sets", m, sender, n)
			}
		}
	})
}

func TestViewsLeftEarly(t *testing.T) {
	everySender(func(m api.Member, sender int) {
		views, want := member.Views(m, sender), tried(m, sender)
		for leave := range want {
			var l []int
			// Called by hand: an iterator that goes on is to be seen here.
			views(func(_, set int) bool {
				l = append(l, set)
				return len(l) <= leave
			})
			if !slices.Equal(l, want[:leave+1]) {
				t.Fatalf("Views(%+v, %d), left behind %d: %b", m, sender, leave+1, l)
			}
		}
	})
}

func TestViewsWithinViews(t *testing.T) {
	m := api.Member{Id: 0, N: 4, Set: 15, Stage: 1}
	views := member.Views(m, 1)
	var l []int
	for _, a := range views {
		for _, b := range views {
			l = append(l, a, b)
		}
	}
	if want := []int{15, 15, 15, 14, 14, 15, 14, 14}; !slices.Equal(l, want) {
		t.Errorf("Views within Views: %b; want %b", l, want)
	}
}

// TestViewsOfThen changes a view behind the asking: what was there then is told (R3).
func TestViewsOfThen(t *testing.T) {
	m := api.Member{Id: 0, N: 4, Set: 15, Stage: 1}
	views := member.Views(m, 1)
	m = api.Member{Id: 2, N: 4, Set: 4}
	var l []int
	for _, set := range views {
		l = append(l, set)
		m.Set = 0
	}
	if !slices.Equal(l, []int{15, 14}) {
		t.Errorf("Views of then: %b", l)
	}
}
