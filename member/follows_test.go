package member_test

import (
	"math"
	"testing"

	"metronome/api"
	"metronome/member"
)

// What one node makes of another one's slot.
const (
	heard   = iota // a frame, right or wrong by its set
	garbled        // a frame that is wrong by all sets
	missing        // nothing
)

// cluster is the views of all nodes; frozen are those that have stopped.
type cluster struct {
	t      *testing.T
	views  []api.Member
	frozen []bool
}

// running is n nodes that take those of a set for members; all are about to send.
func running(t *testing.T, n, set int) *cluster {
	t.Helper()
	c := &cluster{t: t, frozen: make([]bool, n)}
	for id := range n {
		m, e := member.New(id, n, set)
		if e != api.OK {
			t.Fatal("New", e)
		}
		m.Acc = 1
		c.views = append(c.views, m)
	}
	return c
}

// slot plays a node's slot; by says what each other one makes of it.
func (c *cluster) slot(sender int, by func(receiver int) int) {
	c.t.Helper()
	m, verdict, e := member.Own(c.views[sender])
	if e != api.OK {
		c.t.Fatal("Own", e)
	}
	c.views[sender], c.frozen[sender] = m, verdict == api.MvFreeze
	for i, v := range c.views {
		if i == sender || c.frozen[i] {
			continue
		}
		how := by(i)
		if c.frozen[sender] {
			how = missing
		}
		c.views[i] = c.behind(v, sender, how, m.Set)
	}
}

// behind is a view behind a slot in which a frame with a set was sent: it is right if one of Views has that set.
func (c *cluster) behind(v api.Member, sender, how, set int) api.Member {
	c.t.Helper()
	o, e := member.Bad(v, sender)
	switch how {
	case missing:
		o, e = member.Null(v, sender)
	case heard:
		for which, tried := range member.Views(v, sender) {
			if tried == set {
				o, e = member.Good(v, sender, which)
				break
			}
		}
	}
	if e != api.OK || !mayBe(o) {
		c.t.Fatalf("behind slot %d: %+v, %d", sender, o, e)
	}
	return o
}

// by makes what all receivers make of a slot the same.
func by(how int) func(int) int { return func(int) int { return how } }

// but is what all receivers make of a slot, but one of them.
func but(node, its, others int) func(int) int {
	return func(receiver int) int {
		if receiver == node {
			return its
		}
		return others
	}
}

// wantSets asks for the same Set of all nodes.
func (c *cluster) wantSets(what string, want int) {
	c.t.Helper()
	for i, v := range c.views {
		if v.Set != want {
			c.t.Errorf("%s of %d nodes: node %d has the set %b; want %b", what, len(c.views), i, v.Set, want)
		}
	}
}

// The chapter's example

func TestTheExample(t *testing.T) {
	m, e := member.New(0, 4, 0b1111)
	if e != api.OK {
		t.Fatal("New", e)
	}
	m.Acc = 1
	m, v, e := member.Own(m)
	if v != api.MvSend || e != api.OK || m != (api.Member{Id: 0, N: 4, Set: 0b1111, Acc: 1, Stage: 1}) {
		t.Fatalf("sent: %+v, %d, %d", m, v, e)
	}
	wantViews(t, m, 1, 0b1111, 0b1110)
	m, e = member.Good(m, 1, 1)
	if e != api.OK || m != (api.Member{Id: 0, N: 4, Set: 0b1111, Acc: 1, Stage: 2, First: 1}) {
		t.Fatalf("behind node 1: %+v, %d", m, e)
	}
	wantViews(t, m, 2, 0b1101, 0b1110)
	m, e = member.Good(m, 2, 1)
	if e != api.OK || m != (api.Member{Id: 0, N: 4, Set: 0b1110, Acc: 2, Fail: 1}) {
		t.Fatalf("behind node 2: %+v, %d", m, e)
	}
	if member.In(m) {
		t.Error("it is not out")
	}
}

// P9.5: what comes of a view that may be may be

func wantMay(t *testing.T, what string, of, m api.Member, e api.Errno) {
	t.Helper()
	if e != api.OK || member.Check(m) != api.OK || !mayBe(m) {
		t.Fatalf("%s of %+v: %+v, %d", what, of, m, e)
	}
}

func TestWhatComesMayBe(t *testing.T) {
	counts := []int{0, 1, mostCount - 1, mostCount}
	turn := 0
	everySender(func(m api.Member, sender int) {
		turn++
		m.Acc, m.Fail = counts[turn%4], counts[turn/4%4]
		for which := range member.Views(m, sender) {
			o, e := member.Good(m, sender, which)
			wantMay(t, "Good", m, o, e)
		}
		o, e := member.Bad(m, sender)
		wantMay(t, "Bad", m, o, e)
		o, e = member.Null(m, sender)
		wantMay(t, "Null", m, o, e)
		o, _, e = member.Own(m)
		wantMay(t, "Own", m, o, e)
		o, _, e = member.Join(m)
		wantMay(t, "Join", m, o, e)
	})
}

// step is one of the calls, drawn, upon a view.
func (c *chance) step(t *testing.T, m api.Member) (api.Member, api.Errno) {
	t.Helper()
	sender := (m.Id + 1 + c.below(m.N-1)) % m.N
	switch c.below(6) {
	case 0:
		return member.Bad(m, sender)
	case 1:
		return member.Null(m, sender)
	case 2:
		o, _, e := member.Own(m)
		return o, e
	case 3:
		o, _, e := member.Join(m)
		return o, e
	default:
		return member.Good(m, sender, c.below(len(tried(m, sender))))
	}
}

func TestWhatComesOfManyStepsMayBe(t *testing.T) {
	c := chance(95)
	for range 3000 {
		m := c.view()
		for range 50 {
			o, e := c.step(t, m)
			wantMay(t, "a step", m, o, e)
			m = o
		}
	}
}

// P9.6: agreement

// outcomes are the views behind each outcome that there may be in Stage 0.
func outcomes(t *testing.T, m api.Member, sender int) [3]api.Member {
	t.Helper()
	var l [3]api.Member
	for i, f := range []func() (api.Member, api.Errno){
		func() (api.Member, api.Errno) { return member.Good(m, sender, 0) },
		func() (api.Member, api.Errno) { return member.Bad(m, sender) },
		func() (api.Member, api.Errno) { return member.Null(m, sender) },
	} {
		o, e := f()
		wantMay(t, "an outcome", m, o, e)
		l[i] = o
	}
	return l
}

func TestAgreement(t *testing.T) {
	for n := 4; n <= 8; n++ {
		for set := range power(n) {
			for sender := range n {
				var seen [][3]api.Member
				for id := range n {
					if id != sender {
						// What they counted, and First, are not the same.
						m := api.Member{Id: id, N: n, Set: set, Acc: id, Fail: 3 * id, First: (id + 3) % n}
						seen = append(seen, outcomes(t, m, sender))
					}
				}
				for _, x := range seen {
					for how := range 3 {
						if x[how].Set != seen[0][how].Set {
							t.Fatalf("behind slot %d, outcome %d, of the set %b: %+v and %+v", sender, how, set, seen[0][how], x[how])
						}
					}
				}
			}
		}
	}
}

// P9.7: lost and told

// TestLost has a frame missing for all others: behind the next two it is out, for itself too.
func TestLost(t *testing.T) {
	for n := 4; n <= 8; n++ {
		for s := range n {
			for set := range power(n) {
				c := running(t, n, set)
				first, second := (s+1)%n, (s+2)%n
				c.slot(s, by(missing))
				if v := c.views[s]; v.Stage != 1 || !member.In(v) {
					t.Fatalf("sent: %+v", v)
				}
				c.slot(first, by(heard))
				if v := c.views[s]; v.Stage != 2 || v.First != first || !member.In(v) {
					t.Fatalf("behind one follower: %+v", v)
				}
				c.slot(second, by(heard))
				c.wantSets("Lost", without(with(with(set, first), second), s))
				if v := c.views[s]; member.In(v) || v.Stage != 0 {
					t.Fatalf("behind both followers: %+v", v)
				}
			}
		}
	}
}

// TestTold has a frame missing for the next node alone: that one is out, for all others.
func TestTold(t *testing.T) {
	for n := 4; n <= 8; n++ {
		for s := range n {
			for set := range power(n) {
				c := running(t, n, set)
				first, second := (s+1)%n, (s+2)%n
				c.slot(s, but(first, missing, heard))
				c.slot(first, by(heard))
				if v := c.views[s]; v.Stage != 2 || v.First != first {
					t.Fatalf("behind one follower: %+v", v)
				}
				c.slot(second, by(heard))
				want := without(with(with(set, s), second), first)
				for i, v := range c.views {
					if i != first && v.Set != want {
						t.Fatalf("of %d nodes, node %d did not hear node %d: node %d has the set %b; want %b", n, first, s, i, v.Set, want)
					}
				}
				if v := c.views[s]; !member.In(v) || v.Stage != 0 {
					t.Fatalf("behind both followers: %+v", v)
				}
			}
		}
	}
}

// TestToldByOneWhoIsOut has the first follower's say fall away, by a wrong frame or a missing one of its own: the node waits again.
func TestToldByOneWhoIsOut(t *testing.T) {
	for _, how := range []int{garbled, missing} {
		c := running(t, 5, 31)
		for i := range c.views {
			c.views[i].Acc = 9 // none stops here
		}
		c.slot(0, but(1, missing, heard))
		c.slot(1, by(heard))
		c.slot(1, by(how))
		if v := c.views[0]; v.Stage != 1 || v.First != 0 || v.Set != 29 {
			t.Fatalf("behind outcome %d: %+v", how, v)
		}
		c.slot(2, by(heard))
		if v := c.views[0]; v.Stage != 0 || v.Set != 29 || !member.In(v) {
			t.Fatalf("behind outcome %d, and the next one: %+v", how, v)
		}
	}
}

// P9.8: no small clique

// verdictOf is what Own says, which must be what Join says where anything was heard.
func verdictOf(t *testing.T, m api.Member) int {
	t.Helper()
	_, v, e := member.Own(m)
	_, w, f := member.Join(m)
	if e != api.OK || f != api.OK || m.Acc+m.Fail > 0 && v != w {
		t.Fatalf("Own and Join of %+v: %d, %d and %d, %d", m, v, e, w, f)
	}
	return v
}

// rounds calls f with all that a node of n may hear of the others in a round.
func rounds(n int, f func(outcomes []int)) {
	of := make([]int, n-1)
	for i := range int(math.Pow(3, float64(n-1))) {
		for k := range of {
			of[k] = i % 3
			i /= 3
		}
		f(of)
	}
}

// hear is a view behind what was heard of all others in a round, and how many were right and wrong.
func hear(t *testing.T, m api.Member, outcomes []int) (api.Member, int, int) {
	t.Helper()
	right, bad := 0, 0
	for i, how := range outcomes {
		sender := (m.Id + 1 + i) % m.N
		o, e := member.Null(m, sender)
		switch how {
		case heard:
			o, e = member.Good(m, sender, 0)
			right++
		case garbled:
			o, e = member.Bad(m, sender)
			bad++
		}
		wantMay(t, "what was heard", m, o, e)
		m = o
	}
	return m, right, bad
}

func TestNoSmallClique(t *testing.T) {
	for n := 4; n <= 8; n++ {
		for _, id := range []int{0, 1, n - 1} {
			rounds(n, func(outcomes []int) {
				for _, set := range []int{power(n) - 1, power(id)} {
					m, right, wrong := hear(t, sent(api.Member{Id: id, N: n, Set: set}), outcomes)
					if v := verdictOf(t, m); wrong >= right+1 && v != api.MvFreeze || wrong < right+1 && v != api.MvSend {
						t.Fatalf("%d right, with itself, and %d wrong: %d, %+v", right+1, wrong, v, m)
					}
				}
			})
		}
	}
}

// TestNoSmallCliqueInDoubt has frames right with any of the sets, also where the node's own frame was missing.
func TestNoSmallCliqueInDoubt(t *testing.T) {
	c := chance(98)
	stopped := 0
	for range 50000 {
		n := 4 + c.below(5)
		m := sent(api.Member{Id: c.below(n), N: n, Set: c.below(power(n))})
		right, wrong := 1, 0
		for i := 1; i < n; i++ {
			sender := (m.Id + i) % n
			o, e := member.Bad(m, sender)
			if c.below(2) == 0 {
				o, e = member.Good(m, sender, c.below(len(tried(m, sender))))
				right++
			} else {
				wrong++
			}
			wantMay(t, "what was heard", m, o, e)
			m = o
		}
		if wrong < right {
			continue
		}
		stopped++
		if v := verdictOf(t, m); v != api.MvFreeze {
			t.Fatalf("%d right, with itself, and %d wrong: %d, %+v", right, wrong, v, m)
		}
	}
	if stopped < 1000 {
		t.Error("too few that heard as many wrong as right", stopped)
	}
}

// TestNoSmallCliqueOfOneWhoDidNotSend counts only what was heard: the node itself is none of them.
func TestNoSmallCliqueOfOneWhoDidNotSend(t *testing.T) {
	for n := 4; n <= 8; n++ {
		rounds(n, func(outcomes []int) {
			m, right, wrong := hear(t, api.Member{Id: 2, N: n, Set: power(n) - 1}, outcomes)
			if v := verdictOf(t, m); wrong >= right && v != api.MvFreeze || wrong < right && v != api.MvSend {
				t.Fatalf("%d right and %d wrong: %d, %+v", right, wrong, v, m)
			}
		})
	}
}

// TestHalvesDoNotBothGoOn splits a cluster: each node hears its own half alone, and the others' frames are wrong.
func TestHalvesDoNotBothGoOn(t *testing.T) {
	for _, n := range []int{4, 6, 8} {
		c := running(t, n, power(n)-1)
		for s := range n {
			c.slot(s, by(heard))
		}
		for s := range 3 * n {
			c.slot(s%n, func(receiver int) int {
				if receiver < n/2 == (s%n < n/2) {
					return heard
				}
				return garbled
			})
		}
		// The later half has heard as many wrong as right by its slots, and stops: the other one has nothing wrong to hear.
		for i := range n {
			if c.frozen[i] != (i >= n/2) {
				t.Errorf("of %d nodes in two halves node %d stopped: %t; %+v", n, i, c.frozen[i], c.views)
			}
		}
	}
}

// TestOneWhoHearsNoneRightStops is deaf for right frames: it stops, and all others go on without it.
func TestOneWhoHearsNoneRightStops(t *testing.T) {
	for n := 4; n <= 8; n++ {
		for deaf := range n {
			c := running(t, n, power(n)-1)
			for s := range 2 * n {
				c.slot(s%n, but(deaf, garbled, heard))
			}
			for i := range n {
				if c.frozen[i] != (i == deaf) {
					t.Errorf("of %d nodes, node %d hears none right: node %d stopped: %t", n, deaf, i, c.frozen[i])
				}
				if i != deaf && c.views[i].Set != without(power(n)-1, deaf) {
					t.Errorf("of %d nodes, node %d hears none right: node %d has the set %b", n, deaf, i, c.views[i].Set)
				}
			}
		}
	}
}

// P9.9: all is well

func TestAllIsWell(t *testing.T) {
	for n := 4; n <= 8; n++ {
		all := power(n) - 1
		for set := range power(n) {
			c := running(t, n, set)
			for s := range 3 * n {
				c.slot(s%n, by(heard))
				if c.frozen[s%n] {
					t.Fatalf("of %d nodes, all heard: node %d stops in slot %d: %+v", n, s%n, s, c.views[s%n])
				}
				if s >= n-1 {
					c.wantSets("all heard", all)
				}
			}
		}
	}
}

// TestOneThatHearsAllGoesOn is one node alone, from any view that would send, whose frames nobody denies.
func TestOneThatHearsAllGoesOn(t *testing.T) {
	c := chance(99)
	for range 5000 {
		m := c.view()
		m.Fail = min(m.Fail, mostCount-1)
		m.Acc = max(m.Acc, m.Fail+1)
		for range 4 {
			o, v, e := member.Own(m)
			if v != api.MvSend || e != api.OK {
				t.Fatalf("Own(%+v): %d, %d", m, v, e)
			}
			m, _, _ = hear(t, o, make([]int, m.N-1))
			if m.Set != power(m.N)-1 || m.Acc != m.N || m.Fail != 0 || m.Stage != 0 {
				t.Fatalf("all others heard: %+v", m)
			}
		}
	}
}

// TestOneThatJoins begins outside: it hears all others, joins, and goes on.
func TestOneThatJoins(t *testing.T) {
	for n := 4; n <= 8; n++ {
		for id := range n {
			m, _ := member.New(id, n, 0)
			if _, v, _ := member.Join(m); v != api.MvLost {
				t.Fatalf("who heard nothing: %d", v)
			}
			m, _, _ = hear(t, m, make([]int, n-1))
			if m.Set != without(power(n)-1, id) || member.In(m) {
				t.Fatalf("all others heard: %+v", m)
			}
			m, v, e := member.Join(m)
			if v != api.MvSend || e != api.OK || m != (api.Member{Id: id, N: n, Set: power(n) - 1, Acc: 1, Stage: 1}) {
				t.Fatalf("joined: %+v, %d, %d", m, v, e)
			}
		}
	}
}

// P1, R2, R4: all calls, at many arguments that may be or not

func TestNothingPanics(t *testing.T) {
	edges := append(far(), -1, 0, 1, 2, 3, 4, 5, 7, 8, 9, 15, 16, 63, 64, 65, 255, 256, mostCount, mostCount+1)
	c := chance(96)
	pick := func(n int) int {
		if c.below(6) == 0 {
			return edges[c.below(len(edges))]
		}
		return n
	}
	for range 200000 {
		o := c.view()
		m := api.Member{Id: pick(o.Id), N: pick(o.N), Set: pick(o.Set), Acc: pick(o.Acc), Fail: pick(o.Fail), Stage: pick(o.Stage), First: pick(o.First)}
		sender, which := pick(c.below(8)), pick(c.below(2))
		wantCheck(t, m, mayBe(m))
		wantNew(t, m.Id, m.N, m.Set)
		if member.In(m) != (mayBe(m) && isIn(m.Set, m.Id)) {
			t.Fatalf("In(%+v)", m)
		}
		wantFrames(t, m, sender, which)
		for _, call := range verdicts() {
			got, v, e := call(m)
			again, w, f := call(m)
			if got != again || v != w || e != f || (e == api.OK) != mayBe(m) || e != api.OK && (got != (api.Member{}) || v != 0) {
				t.Fatalf("Own or Join of %+v, twice: %+v, %d, %d; %+v, %d, %d", m, got, v, e, again, w, f)
			}
		}
	}
}

// wantFrames holds what comes of a frame, or none, against the chapter, at any arguments.
func wantFrames(t *testing.T, m api.Member, sender, which int) {
	t.Helper()
	want := api.OK
	if !mayBe(m) {
		want = api.ErrMember
	} else if sender < 0 || sender >= m.N || sender == m.Id {
		want = api.ErrArg
	}
	if want != api.OK {
		wantViews(t, m, sender)
		wantNone(t, m, sender, which, want)
		got, e := member.Bad(m, sender)
		wantError(t, "Bad", m, got, e, want)
		got, e = member.Null(m, sender)
		wantError(t, "Null", m, got, e, want)
		return
	}
	sets := tried(m, sender)
	wantViews(t, m, sender, sets...)
	if which >= 0 && which < len(sets) {
		wantGood(t, m, sender, which, good(m, sender, which))
	} else {
		wantNone(t, m, sender, which, api.ErrArg)
	}
	wantBad(t, m, sender, bad(m, sender))
	wantNull(t, m, sender, null(m, sender))
}
