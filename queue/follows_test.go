package queue_test

import (
	"fmt"
	"math"
	"slices"
	"testing"

	"metronome/api"
	"metronome/queue"
)

// chance tells numbers that look like chance, the same ones each time.
type chance uint64

func (c *chance) below(n int) int {
	*c = *c*6364136223846793005 + 1442695040888963407
	return int(uint64(*c>>20) % uint64(n))
}

// event is one of few, so that often several are the same, and not ahead of a moment.
func (c *chance) event(from int64) api.Event {
	return api.Event{At: from + int64(c.below(6)), Kind: c.below(3) - 1, Node: c.below(4), N: int64(c.below(3) - 1)}
}

// mixed are the same events in another order.
func (c *chance) mixed(l []api.Event) []api.Event {
	l = slices.Clone(l)
	for i := range l {
		k := i + c.below(len(l)-i)
		l[i], l[k] = l[k], l[i]
	}
	return l
}

// plain is a queue as it is meant: a list, in order.
type plain struct {
	now   int64
	waits []api.Event
}

func (p *plain) push(e api.Event) api.Errno {
	switch {
	case e.At < p.now || e.At > maxTick:
		return errQueue
	case len(p.waits) == maxQueue:
		return errLong
	}
	p.waits = inOrder(append(p.waits, e))
	return api.OK
}

func (p *plain) pop() (api.Event, api.Errno) {
	if len(p.waits) == 0 {
		return api.Event{}, errNone
	}
	e := p.waits[0]
	p.now, p.waits = e.At, p.waits[1:]
	return e, api.OK
}

func (p *plain) drop(node int) int {
	n := len(p.waits)
	p.waits = slices.DeleteFunc(slices.Clone(p.waits), func(e api.Event) bool { return e.Node == node })
	return n - len(p.waits)
}

// The chapter's example

func TestExample(t *testing.T) {
	q := made(t, api.Event{At: 5, Kind: 1}, api.Event{At: 3, Kind: 2}, api.Event{At: 3, Kind: 1})
	got := ""
	for q.Len() > 0 {
		x := pop(t, q)
		got += fmt.Sprint(x.At, " ", x.Kind, ", ")
	}
	if got != "3 1, 3 2, 5 1, " {
		t.Errorf("taken as %s", got)
	}
}

// P14.3: in order

func TestWhatIsTakenRises(t *testing.T) {
	c := chance(3)
	for range 300 {
		q := made(t, c.events(c.below(30))...)
		last := api.Event{At: -1}
		for range 200 {
			if c.below(3) > 0 {
				x := c.event(q.Now())
				// What is ahead of the one that was taken last may be put, at the same moment, and breaks the order.
				if byRows(x, last) >= 0 {
					put(t, q, x)
				}
				continue
			}
			x, e := q.Pop()
			if e == errNone {
				continue
			}
			if e != api.OK || byRows(x, last) < 0 || q.Now() != x.At {
				t.Fatalf("behind %+v: %+v %d, Now %d", last, x, e, q.Now())
			}
			last = x
		}
	}
}

// events are n of them, from 0 on.
func (c *chance) events(n int) []api.Event {
	l := []api.Event{}
	for range n {
		l = append(l, c.event(0))
	}
	return l
}

func TestWhatIsPutAheadOfTheLastOneAtItsMomentIsTakenNext(t *testing.T) {
	q := made(t, api.Event{At: 5, Kind: 3}, api.Event{At: 5, Kind: 7}, api.Event{At: 6})
	pop(t, q)
	put(t, q, api.Event{At: 5, Kind: 1}, api.Event{At: 5, Kind: 3})
	for _, kind := range []int{1, 3, 7, 0} {
		if x := pop(t, q); x.Kind != kind {
			t.Errorf("Pop: %+v, not of the kind %d", x, kind)
		}
	}
}

// P14.4: each once

func TestWhatWasPutIsTakenJustAsOftenOrIsThere(t *testing.T) {
	c := chance(4)
	for range 200 {
		l := c.events(c.below(20))
		q := made(t, l...)
		count := map[api.Event]int{}
		for _, x := range l {
			count[x]++
		}
		for range 200 {
			if c.below(2) == 0 {
				x := c.event(q.Now())
				put(t, q, x)
				count[x]++
			} else if x, e := q.Pop(); e == api.OK {
				count[x]--
			}
		}
		for x := range q.All() {
			count[x]--
		}
		for x, n := range count {
			if n != 0 {
				t.Fatalf("%+v: %d more put than taken or there", x, n)
			}
		}
	}
}

// All the calls, one behind the other, come to what a list in order comes to.
func TestAnyCallsComeToWhatAListInOrderComesTo(t *testing.T) {
	c := chance(5)
	for range 400 {
		l := c.events(c.below(12))
		q, p := made(t, l...), &plain{waits: inOrder(l)}
		for range 80 {
			switch c.below(8) {
			case 0, 1, 2:
				x := c.event(p.now - 2)
				if e := q.Push(x); e != p.push(x) {
					t.Fatalf("Push(%+v), Now %d: %d", x, p.now, e)
				}
			case 3, 4, 5:
				x, e := q.Pop()
				y, f := p.pop()
				if x != y || e != f {
					t.Fatalf("Pop: %+v %d, not %+v %d", x, e, y, f)
				}
			case 6:
				node := c.below(12)
				if n, want := q.Drop(node), p.drop(node); n != want {
					t.Fatalf("Drop(%d): %d, not %d", node, n, want)
				}
			case 7:
				wantQueue(t, q, p.now, p.waits)
			}
			if q.Len() != len(p.waits) || q.Now() != p.now {
				t.Fatalf("Len %d, Now %d, not %d, %d", q.Len(), q.Now(), len(p.waits), p.now)
			}
		}
		if got := taken(t, q); !slices.Equal(got, p.waits) {
			t.Fatalf("taken in the end: %+v, not %+v", got, p.waits)
		}
	}
}

// P14.5: whoever puts it when

func TestTheSameEventsInAnyOrderAreToldTheSame(t *testing.T) {
	c := chance(6)
	for range 300 {
		l := c.events(1 + c.below(40))
		first := made(t, l...)
		l = c.mixed(l)
		// Some at once, all others one by one.
		n := c.below(len(l) + 1)
		second := made(t, l[:n]...)
		put(t, second, l[n:]...)
		wantQueue(t, second, 0, told(first))
		if got, want := taken(t, second), taken(t, first); !slices.Equal(got, want) {
			t.Fatalf("%+v, not %+v", got, want)
		}
	}
}

func TestEveryOrderOfSixEvents(t *testing.T) {
	l := []api.Event{{At: 1, Kind: 1}, {At: 1}, {At: 1, Node: 1}, {At: 2}, {At: 1}, {At: 0, N: 1}}
	n := 0
	orders(l, 0, func(l []api.Event) {
		n++
		if got := told(made(t, l...)); !slices.Equal(got, inOrder(l)) {
			t.Errorf("%+v: %+v", l, got)
		}
		q := made(t)
		put(t, q, l...)
		if got := taken(t, q); !slices.Equal(got, inOrder(l)) {
			t.Errorf("%+v: taken as %+v", l, got)
		}
	})
	if n != 720 {
		t.Errorf("%d orders", n)
	}
}

// orders does something for every order of what is from a place on.
func orders(l []api.Event, from int, do func([]api.Event)) {
	if from == len(l) {
		do(l)
		return
	}
	for i := from; i < len(l); i++ {
		l[from], l[i] = l[i], l[from]
		orders(l, from+1, do)
		l[from], l[i] = l[i], l[from]
	}
}

// What was taken and dropped in between leaves no trace, either.
func TestWhatCameToTheSameEventsAnotherWayIsToldTheSame(t *testing.T) {
	c := chance(7)
	for range 200 {
		l := c.events(30)
		first, second := made(t), made(t, api.Event{}, api.Event{})
		pop(t, second)
		pop(t, second)
		put(t, first, l...)
		for _, x := range c.mixed(l) {
			put(t, second, api.Event{At: x.At, Node: 99}, x, api.Event{At: 3, Node: 99})
		}
		if n := second.Drop(99); n != 60 {
			t.Fatalf("Drop: %d", n)
		}
		wantQueue(t, second, 0, l)
		if got, want := taken(t, second), taken(t, first); !slices.Equal(got, want) {
			t.Fatalf("%+v, not %+v", got, want)
		}
	}
}

// The iterator

func TestAllMayBeAskedAgainLeftEarlyAndNested(t *testing.T) {
	l := eventsAt(4, 2, 6, 8, 0)
	q := made(t, l...)
	all := q.All()
	for n := range 6 {
		got := []api.Event{}
		for x := range all {
			if len(got) == n {
				break
			}
			got = append(got, x)
		}
		if !slices.Equal(got, inOrder(l)[:n]) {
			t.Errorf("left behind %d: %+v", n, got)
		}
	}
	inner := 0
	for range all {
		inner += len(slices.Collect(all))
	}
	if inner != 25 {
		t.Errorf("nested: %d", inner)
	}
	wantQueue(t, q, 0, l)
	if got := taken(t, q); !slices.Equal(got, inOrder(l)) {
		t.Errorf("taken behind All: %+v", got)
	}
}

func TestAllAsksNoMoreOfOneWhoLeft(t *testing.T) {
	asked := 0
	made(t, eventsAt(1, 2, 3)...).All()(func(api.Event) bool {
		asked++
		return asked < 2
	})
	if asked != 2 {
		t.Errorf("asked %d times", asked)
	}
}

func TestAllTellsWhatWasThereWhenItWasAskedFor(t *testing.T) {
	l := eventsAt(9, 3, 7, 5)
	for what, change := range map[string]func(*queue.Queue){
		"Push":   func(q *queue.Queue) { put(t, q, eventsAt(1, 4, 11)...) },
		"Pop":    func(q *queue.Queue) { pop(t, q) },
		"Drop":   func(q *queue.Queue) { q.Drop(0) },
		"all":    func(q *queue.Queue) { taken(t, q); put(t, q, api.Event{At: 9}) },
		"behind": func(q *queue.Queue) { q.Drop(0); put(t, q, eventsAt(1, 2, 3, 4)...) },
	} {
		q := made(t, l...)
		before := q.All()
		change(q)
		if got := slices.Collect(before); !slices.Equal(got, inOrder(l)) {
			t.Errorf("%s behind All: %+v", what, got)
		}
		if got := slices.Collect(before); !slices.Equal(got, inOrder(l)) {
			t.Errorf("%s behind All, asked again: %+v", what, got)
		}
	}
	q := made(t, l...)
	var got []api.Event
	for x := range q.All() {
		got = append(got, x)
		put(t, q, api.Event{At: 10})
		pop(t, q)
	}
	if !slices.Equal(got, inOrder(l)) {
		t.Errorf("All, with calls between: %+v", got)
	}
}

func TestAllOfNoneTellsNothing(t *testing.T) {
	q := made(t)
	before := q.All()
	for x := range before {
		t.Errorf("told of none: %+v", x)
	}
	put(t, q, api.Event{})
	if got := slices.Collect(before); len(got) != 0 {
		t.Errorf("told, though put later: %+v", got)
	}
}

// R3: nothing that is handed in is changed, kept or shared

func TestNewNeitherChangesNorKeepsItsList(t *testing.T) {
	room := append(eventsAt(9, 8, 7, 6, 5), eventsAt(100, 99, 98, 97)...)
	was := slices.Clone(room)
	l := room[:5]
	q := made(t, l...)
	put(t, q, eventsAt(1, 2)...)
	pop(t, q)
	q.Drop(3)
	told(q)
	put(t, q, eventsAt(4, 3, 2)...)
	if !slices.Equal(room, was) {
		t.Errorf("the list that New was handed: %+v", room)
	}
	want := told(q)
	for i := range room {
		room[i] = api.Event{At: -7, Node: -7}
	}
	wantQueue(t, q, q.Now(), want)
	if got := taken(t, q); !slices.Equal(got, want) {
		t.Errorf("taken behind a change of the list: %+v", got)
	}
}

func TestNewThatFailsChangesNothing(t *testing.T) {
	l := eventsAt(9, 8, -1, 7)
	room := append(l, eventsAt(5)...)
	was := slices.Clone(room)
	wantNoQueue(t, errQueue, room[:4]...)
	if !slices.Equal(room, was) {
		t.Errorf("the list: %+v", room)
	}
}

func TestTwoQueuesOfOneListShareNothing(t *testing.T) {
	l := eventsAt(5, 1, 4)
	a, b := made(t, l...), made(t, l...)
	pop(t, a)
	put(t, a, eventsAt(2, 3)...)
	a.Drop(0)
	wantQueue(t, b, 0, l)
	pop(t, b)
	wantQueue(t, a, 1, nil)
	wantQueue(t, b, 1, []api.Event{{At: 5}, {At: 4, N: 2}})
}

func TestWhatIsAnsweredMayBeChanged(t *testing.T) {
	l := eventsAt(5, 1, 4)
	q := made(t, l...)
	x, _ := q.Peek()
	x.At = 99
	got := told(q)
	for i := range got {
		got[i].At = 77
	}
	got = append(got, got...)
	wantQueue(t, q, 0, l)
}

// R4: the same calls answer the same

func TestTheSameCallsAnswerTheSame(t *testing.T) {
	play := func() string {
		c := chance(8)
		text := ""
		q := made(t, c.events(20)...)
		for range 100 {
			text += fmt.Sprintln(q.Push(c.event(q.Now() - 1)))
			x, e := q.Pop()
			text += fmt.Sprintln(x, e, q.Drop(c.below(30)), q.Len(), told(q), q.Now())
		}
		return text
	}
	if play() != play() {
		t.Error("played twice, it comes to two things")
	}
}

// Bound, and P1: every call ends, and none panics

func TestAsManyAsThereMayBeInEachOrder(t *testing.T) {
	rising := inOrder(many(maxQueue))
	falling := slices.Clone(rising)
	slices.Reverse(falling)
	c := chance(9)
	for _, l := range [][]api.Event{rising, falling, c.mixed(rising), slices.Repeat(rising[:1], maxQueue)} {
		want := inOrder(l)
		if got := told(made(t, l...)); !slices.Equal(got, want) {
			t.Error("All is not in order")
		}
		q := made(t)
		put(t, q, l...)
		if got := taken(t, q); !slices.Equal(got, want) {
			t.Error("what is taken is not in order")
		}
	}
}

func TestNoCallPanics(t *testing.T) {
	c := chance(10)
	ats := []int64{math.MinInt64, -1, 0, 1, maxTick - 1, maxTick, maxTick + 1, math.MaxInt64}
	ints := []int{math.MinInt, -1, 0, 1, 7, math.MaxInt}
	strange := func() api.Event {
		return api.Event{At: ats[c.below(len(ats))], Kind: ints[c.below(6)], Node: ints[c.below(6)], N: ats[c.below(len(ats))]}
	}
	for range 2000 {
		var l []api.Event
		for range c.below(4) {
			l = append(l, strange())
		}
		q, e := queue.New(l...)
		if (q == nil) != (e != api.OK) {
			t.Fatalf("New(%+v): %v %d", l, q, e)
		}
		for range 20 {
			switch c.below(6) {
			case 0, 1, 2:
				q.Push(strange())
			case 3:
				q.Pop()
			case 4:
				q.Drop(ints[c.below(6)])
			case 5:
				q.Peek()
				if len(told(q)) != q.Len() {
					t.Fatalf("All tells %d of %d", len(told(q)), q.Len())
				}
			}
			queue.Less(strange(), strange())
			if q.Now() < 0 || q.Now() > maxTick {
				t.Fatalf("Now %d", q.Now())
			}
		}
	}
}
