package member_test

import (
	"math"
	"testing"

	"metronome/api"
	"metronome/member"
)

// up is one more, up to 2^20.
func up(count int) int {
	if count == mostCount {
		return count
	}
	return count + 1
}

// good is the view that should be behind a right frame, as the chapter says it, Stage by Stage.
func good(m api.Member, sender, which int) api.Member {
	o := m
	o.Set = tried(m, sender)[which]
	switch [2]int{m.Stage, which} {
	case [2]int{0, 0}:
		o.Acc = up(m.Acc)
	case [2]int{1, 0}:
		o.Acc, o.Stage, o.First = up(m.Acc), 0, 0
	case [2]int{1, 1}:
		o.Set, o.Stage, o.First = with(m.Set, sender), 2, sender
	case [2]int{2, 0}, [2]int{2, 1}:
		o.Acc, o.Stage, o.First = up(m.Acc), 0, 0
		if sender != m.First {
			o.Fail = up(m.Fail)
		}
	}
	return o
}

// null is the view that should be behind a slot without a frame.
func null(m api.Member, sender int) api.Member {
	o := m
	o.Set = without(m.Set, sender)
	if m.Stage == 2 && sender == m.First {
		o.Stage, o.First = 1, 0
	}
	return o
}

// bad is the view that should be behind a wrong frame.
func bad(m api.Member, sender int) api.Member {
	o := null(m, sender)
	o.Fail = up(m.Fail)
	return o
}

func wantView(t *testing.T, what string, of api.Member, sender int, got api.Member, e api.Errno, want api.Member) {
	t.Helper()
	if e != api.OK || got != want {
		t.Errorf("%s of %+v, %d: %+v, %d; want %+v", what, of, sender, got, e, want)
	}
}

func wantGood(t *testing.T, m api.Member, sender, which int, want api.Member) {
	t.Helper()
	got, e := member.Good(m, sender, which)
	wantView(t, "Good", m, sender, got, e, want)
}

func wantBad(t *testing.T, m api.Member, sender int, want api.Member) {
	t.Helper()
	got, e := member.Bad(m, sender)
	wantView(t, "Bad", m, sender, got, e, want)
}

func wantNull(t *testing.T, m api.Member, sender int, want api.Member) {
	t.Helper()
	got, e := member.Null(m, sender)
	wantView(t, "Null", m, sender, got, e, want)
}

func wantNone(t *testing.T, m api.Member, sender, which int, want api.Errno) {
	t.Helper()
	got, e := member.Good(m, sender, which)
	wantError(t, "Good", m, got, e, want)
}

// P9.3: Good

func TestGoodByHand(t *testing.T) {
	wantGood(t, api.Member{Id: 0, N: 4, Set: 0b0101, Acc: 3, Fail: 2}, 1, 0, api.Member{Id: 0, N: 4, Set: 0b0111, Acc: 4, Fail: 2})
	wantGood(t, api.Member{Id: 0, N: 4, Set: 0b0100}, 2, 0, api.Member{Id: 0, N: 4, Set: 0b0100, Acc: 1})
	// Stage 1: it was heard, or it may be that it was not.
	sent := api.Member{Id: 0, N: 4, Set: 0b1101, Acc: 1, Stage: 1}
	wantGood(t, sent, 1, 0, api.Member{Id: 0, N: 4, Set: 0b1111, Acc: 2})
	wantGood(t, sent, 1, 1, api.Member{Id: 0, N: 4, Set: 0b1111, Acc: 1, Stage: 2, First: 1})
	wantGood(t, sent, 3, 1, api.Member{Id: 0, N: 4, Set: 0b1101, Acc: 1, Stage: 2, First: 3})
	// Stage 2: another one says who is wrong, First or the node itself.
	doubt := api.Member{Id: 0, N: 4, Set: 0b1011, Acc: 1, Stage: 2, First: 1}
	wantGood(t, doubt, 2, 0, api.Member{Id: 0, N: 4, Set: 0b1101, Acc: 2, Fail: 1})
	wantGood(t, doubt, 2, 1, api.Member{Id: 0, N: 4, Set: 0b1110, Acc: 2, Fail: 1})
	wantGood(t, doubt, 1, 0, api.Member{Id: 0, N: 4, Set: 0b1011, Acc: 2})
}

func TestGoodOfAll(t *testing.T) {
	everySender(func(m api.Member, sender int) {
		m.Acc, m.Fail = 3, 5
		for which := range tried(m, sender) {
			wantGood(t, m, sender, which, good(m, sender, which))
		}
	})
}

// TestFirstGoesWithTheStage has First at another number than 0 in each Stage: it is 0 whenever Stage becomes 0, and else stays.
func TestFirstGoesWithTheStage(t *testing.T) {
	for _, which := range []int{0, 1} {
		m, _ := member.Good(api.Member{Id: 0, N: 4, Set: 15, Stage: 2, First: 3}, 1, which)
		if m.Stage != 0 || m.First != 0 {
			t.Errorf("Good out of Stage 2, number %d: %+v", which, m)
		}
	}
	m, _ := member.Good(api.Member{Id: 0, N: 4, Set: 15, Stage: 2, First: 3}, 3, 0)
	if m.Stage != 0 || m.First != 0 {
		t.Errorf("Good out of Stage 2, by First: %+v", m)
	}
	m, _ = member.Good(api.Member{Id: 0, N: 4, Set: 15, Stage: 1, First: 3}, 1, 0)
	if m.Stage != 0 || m.First != 0 {
		t.Errorf("Good out of Stage 1: %+v", m)
	}
	m, _ = member.Good(api.Member{Id: 0, N: 4, Set: 15, First: 3}, 1, 0)
	if m.Stage != 0 || m.First != 3 {
		t.Errorf("Good in Stage 0: %+v", m)
	}
}

func TestGoodOfNumbersThatThereAreNot(t *testing.T) {
	numbers := append(far(), -64, -2, -1, 0, 1, 2, 3, 63, 64, 65, 256)
	everySender(func(m api.Member, sender int) {
		count := len(tried(m, sender))
		for _, which := range numbers {
			if which < 0 || which >= count {
				wantNone(t, m, sender, which, api.ErrArg)
			}
		}
	})
	wantNone(t, api.Member{Id: 0, N: 4, Set: 15}, 1, 1, api.ErrArg)
	wantNone(t, api.Member{Id: 0, N: 4, Set: 15, Stage: 1}, 1, 2, api.ErrArg)
	wantNone(t, api.Member{Id: 0, N: 4, Set: 15, Stage: 2, First: 2}, 1, 2, api.ErrArg)
	wantNone(t, api.Member{Id: 0, N: 4, Set: 15, Stage: 2, First: 2}, 2, 1, api.ErrArg)
	wantNone(t, api.Member{Id: 0, N: 4, Set: 15, Stage: 2, First: 2}, 2, -1, api.ErrArg)
}

// P9.3: Bad and Null

func TestBadByHand(t *testing.T) {
	wantBad(t, api.Member{Id: 0, N: 4, Set: 0b1111, Acc: 3, Fail: 2}, 1, api.Member{Id: 0, N: 4, Set: 0b1101, Acc: 3, Fail: 3})
	wantBad(t, api.Member{Id: 0, N: 4, Set: 0b1101, Acc: 3}, 1, api.Member{Id: 0, N: 4, Set: 0b1101, Acc: 3, Fail: 1})
	wantBad(t, api.Member{Id: 0, N: 4, Set: 0b1111, Acc: 1, Stage: 1}, 3, api.Member{Id: 0, N: 4, Set: 0b0111, Acc: 1, Fail: 1, Stage: 1})
	doubt := api.Member{Id: 0, N: 4, Set: 0b1111, Acc: 1, Stage: 2, First: 1}
	wantBad(t, doubt, 2, api.Member{Id: 0, N: 4, Set: 0b1011, Acc: 1, Fail: 1, Stage: 2, First: 1})
	wantBad(t, doubt, 1, api.Member{Id: 0, N: 4, Set: 0b1101, Acc: 1, Fail: 1, Stage: 1})
}

func TestNullByHand(t *testing.T) {
	wantNull(t, api.Member{Id: 0, N: 4, Set: 0b1111, Acc: 3, Fail: 2}, 1, api.Member{Id: 0, N: 4, Set: 0b1101, Acc: 3, Fail: 2})
	wantNull(t, api.Member{Id: 0, N: 4, Set: 0b1101, Acc: 3}, 1, api.Member{Id: 0, N: 4, Set: 0b1101, Acc: 3})
	wantNull(t, api.Member{Id: 0, N: 4, Set: 0b1111, Acc: 1, Stage: 1}, 3, api.Member{Id: 0, N: 4, Set: 0b0111, Acc: 1, Stage: 1})
	doubt := api.Member{Id: 0, N: 4, Set: 0b1111, Acc: 1, Stage: 2, First: 1}
	wantNull(t, doubt, 2, api.Member{Id: 0, N: 4, Set: 0b1011, Acc: 1, Stage: 2, First: 1})
	wantNull(t, doubt, 1, api.Member{Id: 0, N: 4, Set: 0b1101, Acc: 1, Stage: 1})
	// First says nothing in another Stage, and stays.
	wantNull(t, api.Member{Id: 0, N: 4, Set: 0b1111, Stage: 1, First: 1}, 1, api.Member{Id: 0, N: 4, Set: 0b1101, Stage: 1, First: 1})
	wantNull(t, api.Member{Id: 0, N: 4, Set: 0b1111, First: 1}, 1, api.Member{Id: 0, N: 4, Set: 0b1101, First: 1})
}

func TestBadAndNullOfAll(t *testing.T) {
	everySender(func(m api.Member, sender int) {
		m.Acc, m.Fail = 3, 5
		wantBad(t, m, sender, bad(m, sender))
		wantNull(t, m, sender, null(m, sender))
	})
}

// P9.3: counts stop

func TestCountsStop(t *testing.T) {
	edges := []int{0, 1, mostCount - 1, mostCount}
	everySender(func(m api.Member, sender int) {
		if m.N > 5 {
			return
		}
		for _, acc := range edges {
			for _, fail := range edges {
				m.Acc, m.Fail = acc, fail
				for which := range tried(m, sender) {
					wantGood(t, m, sender, which, good(m, sender, which))
				}
				wantBad(t, m, sender, bad(m, sender))
				wantNull(t, m, sender, null(m, sender))
			}
		}
	})
}

func TestCountsStopByHand(t *testing.T) {
	m := api.Member{Id: 0, N: 4, Set: 15, Acc: mostCount, Fail: mostCount}
	wantGood(t, m, 1, 0, m)
	wantBad(t, m, 1, api.Member{Id: 0, N: 4, Set: 13, Acc: mostCount, Fail: mostCount})
	wantNull(t, m, 1, api.Member{Id: 0, N: 4, Set: 13, Acc: mostCount, Fail: mostCount})
	m.Stage, m.First = 2, 2
	wantGood(t, m, 1, 1, api.Member{Id: 0, N: 4, Set: 14, Acc: mostCount, Fail: mostCount})
	m.Acc, m.Fail = mostCount-1, mostCount-1
	wantGood(t, m, 1, 0, api.Member{Id: 0, N: 4, Set: 11, Acc: mostCount, Fail: mostCount})
	wantBad(t, m, 2, api.Member{Id: 0, N: 4, Set: 11, Acc: mostCount - 1, Fail: mostCount, Stage: 1})
}

// P9.3: errors, the one that is named first

func TestFramesOfNoOtherNode(t *testing.T) {
	for n := 4; n <= 8; n++ {
		for id := range n {
			for stage := range 3 {
				m := api.Member{Id: id, N: n, Set: power(n) - 1, Acc: 2, Stage: stage, First: (id + 1) % n}
				for _, sender := range noOther(id, n) {
					for _, which := range []int{math.MinInt, -1, 0, 1, 2, math.MaxInt} {
						wantNone(t, m, sender, which, api.ErrArg)
					}
					got, e := member.Bad(m, sender)
					wantError(t, "Bad", m, got, e, api.ErrArg)
					got, e = member.Null(m, sender)
					wantError(t, "Null", m, got, e, api.ErrArg)
				}
			}
		}
	}
}

func TestFramesOfViewsThatMayNotBe(t *testing.T) {
	for _, m := range wrong() {
		for _, sender := range append(noOther(m.Id, m.N), 0, 1, 2, 3, 7) {
			for _, which := range []int{math.MinInt, -1, 0, 1, 2, math.MaxInt} {
				wantNone(t, m, sender, which, api.ErrMember)
			}
			got, e := member.Bad(m, sender)
			wantError(t, "Bad", m, got, e, api.ErrMember)
			got, e = member.Null(m, sender)
			wantError(t, "Null", m, got, e, api.ErrMember)
		}
	}
}

// P9.4: Own and Join

func verdicts() []func(api.Member) (api.Member, int, api.Errno) {
	return []func(api.Member) (api.Member, int, api.Errno){member.Own, member.Join}
}

func wantOwn(t *testing.T, m api.Member, want api.Member, verdict int) {
	t.Helper()
	if got, v, e := member.Own(m); got != want || v != verdict || e != api.OK {
		t.Errorf("Own(%+v): %+v, %d, %d; want %+v, %d", m, got, v, e, want, verdict)
	}
}

func wantJoin(t *testing.T, m api.Member, want api.Member, verdict int) {
	t.Helper()
	if got, v, e := member.Join(m); got != want || v != verdict || e != api.OK {
		t.Errorf("Join(%+v): %+v, %d, %d; want %+v, %d", m, got, v, e, want, verdict)
	}
}

// sent is a view behind its own frame, as the chapter says it.
func sent(m api.Member) api.Member {
	return api.Member{Id: m.Id, N: m.N, Set: with(m.Set, m.Id), Acc: 1, Fail: 0, Stage: 1, First: 0}
}

func TestOwnByHand(t *testing.T) {
	m := api.Member{Id: 2, N: 4, Set: 0b1011, Acc: 3, Fail: 2, First: 3}
	behind := api.Member{Id: 2, N: 4, Set: 0b1111, Acc: 1, Stage: 1}
	wantOwn(t, m, behind, api.MvSend)
	wantJoin(t, m, behind, api.MvSend)
	m.Acc = 2
	wantOwn(t, m, m, api.MvFreeze)
	wantJoin(t, m, m, api.MvFreeze)
	m.Acc = 1
	wantOwn(t, m, m, api.MvFreeze)
	wantJoin(t, m, m, api.MvFreeze)
	m.Acc, m.Fail = 0, 0
	wantOwn(t, m, m, api.MvFreeze)
	wantJoin(t, m, m, api.MvLost)
	m.Acc = 1
	wantOwn(t, m, behind, api.MvSend)
	wantJoin(t, m, behind, api.MvSend)
	m.Acc, m.Fail = 0, 1
	wantOwn(t, m, m, api.MvFreeze)
	wantJoin(t, m, m, api.MvFreeze)
	// It may still wait, or be in doubt.
	m = api.Member{Id: 2, N: 4, Set: 0b0110, Acc: 2, Fail: 1, Stage: 2, First: 3}
	wantOwn(t, m, api.Member{Id: 2, N: 4, Set: 0b0110, Acc: 1, Stage: 1}, api.MvSend)
	m.Fail = 2
	wantOwn(t, m, m, api.MvFreeze)
}

func TestOwnAndJoinOfAll(t *testing.T) {
	counts := [][2]int{{0, 0}, {0, 1}, {1, 0}, {1, 1}, {2, 1}, {1, 2}, {7, 7}, {8, 7}, {0, mostCount}, {mostCount, 0}, {mostCount, mostCount}, {mostCount, mostCount - 1}, {mostCount - 1, mostCount}}
	for n := 4; n <= 8; n++ {
		everyView(n, func(m api.Member) {
			for _, x := range counts {
				m.Acc, m.Fail = x[0], x[1]
				switch {
				case m.Acc > m.Fail:
					wantOwn(t, m, sent(m), api.MvSend)
					wantJoin(t, m, sent(m), api.MvSend)
				case m.Acc == 0 && m.Fail == 0:
					wantOwn(t, m, m, api.MvFreeze)
					wantJoin(t, m, m, api.MvLost)
				default:
					wantOwn(t, m, m, api.MvFreeze)
					wantJoin(t, m, m, api.MvFreeze)
				}
			}
		})
	}
}

func TestOwnAndJoinOfViewsThatMayNotBe(t *testing.T) {
	for _, m := range wrong() {
		for _, x := range [][2]int{{m.Acc, m.Fail}, {0, 0}, {1, 2}, {2, 1}} {
			m.Acc, m.Fail = x[0], x[1]
			if mayBe(m) {
				continue
			}
			for _, call := range verdicts() {
				got, v, e := call(m)
				wantError(t, "Own or Join", m, got, e, api.ErrMember)
				if v != 0 {
					t.Errorf("Own or Join of %+v: %d beside an error", m, v)
				}
			}
		}
	}
}
