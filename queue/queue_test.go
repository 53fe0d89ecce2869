package queue_test

import (
	"fmt"
	"math"
	"slices"
	"testing"

	"metronome/api"
	"metronome/queue"
)

// The limits and errors, as the chapter tells them.
const (
	maxQueue = 1 << 14
	maxTick  = 1 << 40
	errMade  = api.Errno(1)
	errLong  = api.Errno(3)
	errNone  = api.Errno(4)
	errQueue = api.Errno(140)
)

// Events and queues.

// row is an event's fields, in the order in which they count.
func row(e api.Event) []int64 {
	return []int64{e.At, int64(e.Kind), int64(e.Node), e.N}
}

// byRows holds two events against each other by their rows.
func byRows(a, b api.Event) int {
	return slices.Compare(row(a), row(b))
}

// inOrder are events in the order in which they are to be told.
func inOrder(l []api.Event) []api.Event {
	l = slices.Clone(l)
	slices.SortFunc(l, byRows)
	return l
}

// grid are all events whose fields are among a few numbers.
func grid(ats, kinds, nodes, ns []int) []api.Event {
	var l []api.Event
	for _, at := range ats {
		for _, kind := range kinds {
			for _, node := range nodes {
				for _, n := range ns {
					l = append(l, api.Event{At: int64(at), Kind: kind, Node: node, N: int64(n)})
				}
			}
		}
	}
	return l
}

// eventsAt are events at moments, one of which is told from the other by its N.
func eventsAt(ats ...int64) []api.Event {
	var l []api.Event
	for i, at := range ats {
		l = append(l, api.Event{At: at, N: int64(i)})
	}
	return l
}

// made is a queue of events.
func made(t *testing.T, l ...api.Event) *queue.Queue {
	t.Helper()
	q, e := queue.New(l...)
	if e != api.OK || q == nil {
		t.Fatalf("New of %d: %v %d", len(l), q, e)
	}
	return q
}

// full is a queue of as many events as there may be, two at each moment.
func full(t *testing.T) *queue.Queue {
	t.Helper()
	return made(t, many(maxQueue)...)
}

// many are events, two at each moment, the last ones first.
func many(n int) []api.Event {
	l := make([]api.Event, n)
	for i := range l {
		l[i] = api.Event{At: int64((n - 1 - i) / 2), Kind: i % 3, Node: i % 5, N: int64(i)}
	}
	return l
}

func put(t *testing.T, q *queue.Queue, l ...api.Event) {
	t.Helper()
	for _, x := range l {
		if e := q.Push(x); e != api.OK {
			t.Fatalf("Push(%+v): %d", x, e)
		}
	}
}

func pop(t *testing.T, q *queue.Queue) api.Event {
	t.Helper()
	x, e := q.Pop()
	if e != api.OK {
		t.Fatalf("Pop of %d: %d", q.Len(), e)
	}
	return x
}

// taken are all events of a queue, taken one behind the other.
func taken(t *testing.T, q *queue.Queue) []api.Event {
	t.Helper()
	var l []api.Event
	for range q.Len() {
		l = append(l, pop(t, q))
	}
	if x, e := q.Pop(); x != (api.Event{}) || e != errNone {
		t.Errorf("Pop behind %d: %+v %d", len(l), x, e)
	}
	return l
}

func told(q *queue.Queue) []api.Event {
	return slices.Collect(q.All())
}

// wantQueue asks all that a queue tells, without a change.
func wantQueue(t *testing.T, q *queue.Queue, now int64, l []api.Event) {
	t.Helper()
	l = inOrder(l)
	if got := told(q); !slices.Equal(got, l) {
		t.Errorf("All: %+v, not %+v", got, l)
	}
	if q.Len() != len(l) || q.Now() != now {
		t.Errorf("Len %d, Now %d, not %d, %d", q.Len(), q.Now(), len(l), now)
	}
	x, is := q.Peek()
	if is != (len(l) > 0) {
		t.Errorf("Peek of %d: %+v %v", len(l), x, is)
	}
	if is && x != l[0] || !is && x != (api.Event{}) {
		t.Errorf("Peek of %+v: %+v", l, x)
	}
}

func wantNoQueue(t *testing.T, want api.Errno, l ...api.Event) {
	t.Helper()
	if q, e := queue.New(l...); q != nil || e != want {
		t.Errorf("New of %d: %v %d, not %d", len(l), q, e, want)
	}
}

// P14.1: Less

func TestLessGoesByAtThenKindThenNodeThenN(t *testing.T) {
	l := grid([]int{0, 1, 7}, []int{-1, 0, 2}, []int{-2, 0, 3}, []int{-1, 0, 5})
	for _, a := range l {
		for _, b := range l {
			if got, want := queue.Less(a, b), byRows(a, b) < 0; got != want {
				t.Fatalf("Less(%+v, %+v): %v", a, b, got)
			}
		}
	}
}

func TestLessByOneFieldAlone(t *testing.T) {
	x := api.Event{At: 10, Kind: 3, Node: 2, N: 4}
	for what, later := range map[string]api.Event{
		"At":   {At: 11, Kind: 3, Node: 2, N: 4},
		"Kind": {At: 10, Kind: 4, Node: 2, N: 4},
		"Node": {At: 10, Kind: 3, Node: 3, N: 4},
		"N":    {At: 10, Kind: 3, Node: 2, N: 5},
		// Each field outweighs all behind it.
		"At, all else less":         {At: 11, Kind: 2, Node: 1, N: 3},
		"Kind, Node and N less":     {At: 10, Kind: 4, Node: 1, N: 3},
		"Node, N less":              {At: 10, Kind: 3, Node: 3, N: 3},
		"At at the greatest number": {At: math.MaxInt64, Kind: math.MinInt, Node: math.MinInt, N: math.MinInt64},
	} {
		if !queue.Less(x, later) || queue.Less(later, x) {
			t.Errorf("%s: %v %v", what, queue.Less(x, later), queue.Less(later, x))
		}
	}
	if queue.Less(x, x) {
		t.Error("an event comes ahead of itself")
	}
	if queue.Less(api.Event{}, api.Event{}) {
		t.Error("the zero event comes ahead of itself")
	}
}

func TestLessOfNumbersThatLieFarApart(t *testing.T) {
	for _, l := range [][2]api.Event{
		{{At: math.MinInt64}, {At: math.MaxInt64}},
		{{At: math.MinInt64}, {At: 1}},
		{{Kind: math.MinInt}, {Kind: math.MaxInt}},
		{{Kind: -2}, {Kind: math.MaxInt}},
		{{Node: math.MinInt}, {Node: math.MaxInt}},
		{{N: math.MinInt64}, {N: math.MaxInt64}},
		{{N: math.MinInt64}, {N: 1}},
	} {
		if !queue.Less(l[0], l[1]) || queue.Less(l[1], l[0]) {
			t.Errorf("%+v, %+v: %v %v", l[0], l[1], queue.Less(l[0], l[1]), queue.Less(l[1], l[0]))
		}
	}
}

// P14.1: New

func TestNewOfNoEvent(t *testing.T) {
	for _, l := range [][]api.Event{nil, {}} {
		wantQueue(t, made(t, l...), 0, nil)
	}
	wantQueue(t, made(t), 0, nil)
}

func TestNewTellsItsEventsInOrder(t *testing.T) {
	for _, l := range [][]api.Event{
		{{At: 7, Kind: 2, Node: 1, N: -3}},
		{{}},
		eventsAt(9, 4, 4, 0),
		eventsAt(1, 2, 3, 4, 5, 6, 7),
		eventsAt(7, 6, 5, 4, 3, 2, 1),
		{{At: 5}, {At: 5}, {At: 5}},
		{{At: 5, N: 2}, {At: 3, N: math.MinInt64}, {At: 5, N: 2}, {At: 3, Node: -1, N: math.MaxInt64}},
		grid([]int{3, 1, 2}, []int{1, -1, 0}, []int{0, 5}, []int{7, -7}),
	} {
		wantQueue(t, made(t, l...), 0, l)
		if got := taken(t, made(t, l...)); !slices.Equal(got, inOrder(l)) {
			t.Errorf("taken of %+v: %+v", l, got)
		}
	}
}

func TestNewOfAsManyAsThereMayBe(t *testing.T) {
	wantQueue(t, made(t, many(maxQueue-1)...), 0, many(maxQueue-1))
	wantQueue(t, full(t), 0, many(maxQueue))
	wantNoQueue(t, errLong, many(maxQueue+1)...)
	wantNoQueue(t, errLong, make([]api.Event, 3*maxQueue)...)
}

func TestNewAsksEachAt(t *testing.T) {
	for _, at := range []int64{0, 1, maxTick - 1, maxTick} {
		wantQueue(t, made(t, eventsAt(at)...), 0, eventsAt(at))
		l := eventsAt(5, at, 3)
		wantQueue(t, made(t, l...), 0, l)
	}
	for _, at := range []int64{-1, -maxTick, math.MinInt64, maxTick + 1, math.MaxInt64} {
		for i := range 5 {
			l := eventsAt(4, 3, 2, 1, 0)
			l[i].At = at
			wantNoQueue(t, errQueue, l...)
		}
		wantNoQueue(t, errQueue, api.Event{At: at})
	}
}

func TestNewAsksNothingElseOfAnEvent(t *testing.T) {
	least, most := math.MinInt, math.MaxInt
	l := grid([]int{0, maxTick}, []int{least, -1, most}, []int{least, -1, most}, []int{least, -1, most})
	wantQueue(t, made(t, l...), 0, l)
}

func TestNewSaysThatThereAreTooManyFirst(t *testing.T) {
	for _, at := range []int64{-1, maxTick + 1} {
		for _, i := range []int{0, 1, maxQueue - 1, maxQueue} {
			l := many(maxQueue + 1)
			l[i].At = at
			wantNoQueue(t, errLong, l...)
		}
		l := many(maxQueue)
		l[maxQueue-1].At = at
		wantNoQueue(t, errQueue, l...)
	}
}

// P14.2: Push

func TestPushPutsAnEventInItsPlace(t *testing.T) {
	l := grid([]int{2, 9, 5}, []int{1, 0}, []int{3, -1}, []int{0, 4})
	q := made(t)
	for i, x := range l {
		put(t, q, x)
		wantQueue(t, q, 0, l[:i+1])
	}
	for i, x := range l {
		q := made(t, l...)
		put(t, q, x)
		wantQueue(t, q, 0, append(slices.Clone(l), l[i]))
	}
}

func TestPushOfOneThatIsThereAlready(t *testing.T) {
	x := api.Event{At: 6, Kind: 1, Node: 2, N: 3}
	q := made(t, x)
	for n := 2; n < 10; n++ {
		put(t, q, x)
		wantQueue(t, q, 0, slices.Repeat([]api.Event{x}, n))
	}
}

func TestPushAboutNow(t *testing.T) {
	q := made(t, eventsAt(10, 20, 30)...)
	pop(t, q)
	pop(t, q)
	left := []api.Event{{At: 30, N: 2}}
	wantQueue(t, q, 20, left)
	for _, at := range []int64{math.MinInt64, -1, 0, 10, 19} {
		if e := q.Push(api.Event{At: at, Kind: math.MaxInt}); e != errQueue {
			t.Errorf("Push at %d, Now 20: %d", at, e)
		}
		wantQueue(t, q, 20, left)
	}
	for _, x := range []api.Event{
		{At: 20, Kind: 9}, {At: 20, Kind: 9}, {At: 21}, {At: 29}, {At: 31}, {At: maxTick},
		// At Now, though ahead of the one that was taken last.
		{At: 20, Kind: -1, Node: -1, N: -1},
	} {
		put(t, q, x)
		left = append(left, x)
		wantQueue(t, q, 20, left)
	}
}

func TestPushAtTheFirstAndTheLastMoment(t *testing.T) {
	q := made(t)
	put(t, q, eventsAt(0, maxTick, 0, maxTick)...)
	for _, at := range []int64{-1, maxTick + 1, math.MinInt64, math.MaxInt64} {
		if e := q.Push(api.Event{At: at}); e != errQueue {
			t.Errorf("Push at %d: %d", at, e)
		}
	}
	wantQueue(t, q, 0, eventsAt(0, maxTick, 0, maxTick))
	for range 4 {
		pop(t, q)
	}
	if e := q.Push(api.Event{At: maxTick - 1}); e != errQueue {
		t.Errorf("Push ahead of MaxTick: %d", e)
	}
	put(t, q, api.Event{At: maxTick})
	if e := q.Push(api.Event{At: maxTick + 1}); e != errQueue {
		t.Errorf("Push behind MaxTick: %d", e)
	}
	wantQueue(t, q, maxTick, []api.Event{{At: maxTick}})
}

func TestPushOntoAsManyAsThereMayBe(t *testing.T) {
	q := made(t, many(maxQueue-1)...)
	put(t, q, api.Event{At: 3, N: -1})
	all := append(many(maxQueue-1), api.Event{At: 3, N: -1})
	wantQueue(t, q, 0, all)
	for _, x := range []api.Event{{}, {At: 3, N: -1}, {At: maxTick}} {
		if e := q.Push(x); e != errLong {
			t.Errorf("Push(%+v) onto MaxQueue: %d", x, e)
		}
	}
	wantQueue(t, q, 0, all)
	// One that may not be is said ahead of there being too many.
	for _, at := range []int64{-1, maxTick + 1} {
		if e := q.Push(api.Event{At: at}); e != errQueue {
			t.Errorf("Push at %d onto MaxQueue: %d", at, e)
		}
	}
	first := pop(t, q)
	put(t, q, first)
	if e := q.Push(first); e != errLong {
		t.Errorf("Push onto MaxQueue, behind a Pop: %d", e)
	}
	wantQueue(t, q, first.At, all)
}

// P14.2: Pop and Now

func TestPopTakesTheFirstOne(t *testing.T) {
	l := grid([]int{4, 0, 8}, []int{1, 0}, []int{3, -1}, []int{0, 4})
	q := made(t, l...)
	l = inOrder(l)
	now := int64(0)
	for len(l) > 0 {
		wantQueue(t, q, now, l)
		if x := pop(t, q); x != l[0] {
			t.Fatalf("Pop of %+v: %+v", l, x)
		}
		now, l = l[0].At, l[1:]
	}
	wantQueue(t, q, now, nil)
}

func TestPopOfEachNumberOfEvents(t *testing.T) {
	for n := range 70 {
		for _, l := range [][]api.Event{many(n), inOrder(many(n))} {
			if got := taken(t, made(t, l...)); !slices.Equal(got, inOrder(l)) {
				t.Fatalf("%d taken: %+v", n, got)
			}
		}
	}
	if got := taken(t, full(t)); !slices.Equal(got, inOrder(many(maxQueue))) {
		t.Error("MaxQueue events are taken otherwise than in order")
	}
}

func TestPopOfOneAndOfNone(t *testing.T) {
	q := made(t, api.Event{At: 77, Kind: 1, Node: 2, N: 3})
	if x, e := q.Pop(); x != (api.Event{At: 77, Kind: 1, Node: 2, N: 3}) || e != api.OK {
		t.Errorf("Pop of one: %+v %d", x, e)
	}
	wantQueue(t, q, 77, nil)
	for range 3 {
		if x, e := q.Pop(); x != (api.Event{}) || e != errNone {
			t.Errorf("Pop of none: %+v %d", x, e)
		}
		wantQueue(t, q, 77, nil)
	}
	if x, e := made(t).Pop(); x != (api.Event{}) || e != errNone {
		t.Errorf("Pop of none at first: %+v %d", x, e)
	}
	put(t, q, api.Event{At: 77}, api.Event{At: 90})
	wantQueue(t, q, 77, []api.Event{{At: 77}, {At: 90}})
}

func TestNowIsTheMomentOfTheLastOneThatWasTaken(t *testing.T) {
	q := made(t, eventsAt(50, 40, 40, maxTick)...)
	for _, now := range []int64{0, 40, 40, 50, maxTick} {
		if q.Now() != now {
			t.Errorf("Now %d, not %d", q.Now(), now)
		}
		q.Pop()
	}
	if q.Now() != maxTick {
		t.Errorf("Now %d behind the last Pop", q.Now())
	}
}

func TestNothingButPopMovesNow(t *testing.T) {
	q := made(t, eventsAt(30, 40, 50)...)
	pop(t, q)
	put(t, q, api.Event{At: 35, Node: 1})
	q.Peek()
	told(q)
	if n := q.Drop(1); n != 1 {
		t.Errorf("Drop(1): %d", n)
	}
	if n := q.Drop(0); n != 2 {
		t.Errorf("Drop(0): %d", n)
	}
	wantQueue(t, q, 30, nil)
	put(t, q, api.Event{At: 30})
	if e := q.Push(api.Event{At: 29}); e != errQueue {
		t.Errorf("Push ahead of Now, behind a Drop: %d", e)
	}
}

// P14.2: Peek and Len

func TestPeekLeavesTheFirstOneThere(t *testing.T) {
	l := eventsAt(8, 6, 7)
	q := made(t, l...)
	for range 3 {
		if x, is := q.Peek(); x != l[1] || !is {
			t.Errorf("Peek: %+v %v", x, is)
		}
	}
	wantQueue(t, q, 0, l)
	// The zero event is one, too.
	put(t, q, api.Event{})
	if x, is := q.Peek(); x != (api.Event{}) || !is {
		t.Errorf("Peek: %+v %v", x, is)
	}
}

func TestLenCountsAll(t *testing.T) {
	q := made(t)
	for n := range 100 {
		if q.Len() != n {
			t.Errorf("Len behind %d Pushes: %d", n, q.Len())
		}
		put(t, q, api.Event{At: 5, N: int64(n / 3)})
	}
	for n := 100; n > 0; n-- {
		if q.Len() != n {
			t.Errorf("Len of %d: %d", n, q.Len())
		}
		pop(t, q)
	}
	if q.Len() != 0 {
		t.Errorf("Len of none: %d", q.Len())
	}
}

// P14.2: Drop

func TestDropTakesAllOfANode(t *testing.T) {
	l := grid([]int{4, 0, 8}, []int{1, 0}, []int{3, -1, 0, 6}, []int{0, 4})
	l = append(l, l...)
	for _, node := range []int{-1, 0, 3, 6, 1, -2, 7, math.MinInt, math.MaxInt} {
		q := made(t, l...)
		first := pop(t, q)
		left := slices.Delete(inOrder(l), 0, 1)
		kept := slices.DeleteFunc(slices.Clone(left), func(e api.Event) bool { return e.Node == node })
		if n := q.Drop(node); n != len(left)-len(kept) {
			t.Errorf("Drop(%d) of %d: %d", node, len(left), n)
		}
		wantQueue(t, q, first.At, kept)
		if n := q.Drop(node); n != 0 {
			t.Errorf("Drop(%d) again: %d", node, n)
		}
		wantQueue(t, q, first.At, kept)
		put(t, q, api.Event{At: 4, Node: node})
		kept = append(kept, api.Event{At: 4, Node: node})
		if got := taken(t, q); !slices.Equal(got, inOrder(kept)) {
			t.Errorf("taken behind Drop(%d): %+v", node, got)
		}
	}
}

func TestDropOfNoneSomeAndAll(t *testing.T) {
	if n := made(t).Drop(0); n != 0 {
		t.Errorf("Drop of no event: %d", n)
	}
	for _, c := range []struct{ node, n int }{{0, 4}, {1, 2}, {2, 1}, {3, 0}, {-1, 0}} {
		l := []api.Event{{At: 9}, {At: 9}, {At: 2}, {At: 5}, {At: 1, Node: 1}, {At: 7, Node: 1}, {At: 5, Node: 2}}
		q := made(t, l...)
		if n := q.Drop(c.node); n != c.n {
			t.Errorf("Drop(%d): %d, not %d", c.node, n, c.n)
		}
		wantQueue(t, q, 0, slices.DeleteFunc(l, func(e api.Event) bool { return e.Node == c.node }))
	}
	q := made(t, slices.Repeat([]api.Event{{At: 3, Node: 5}}, maxQueue)...)
	if n := q.Drop(5); n != maxQueue {
		t.Errorf("Drop of all: %d", n)
	}
	wantQueue(t, q, 0, nil)
	put(t, q, eventsAt(2, 1)...)
	wantQueue(t, q, 0, eventsAt(2, 1))
}

func TestDropMakesRoom(t *testing.T) {
	q := full(t)
	n := q.Drop(4)
	if n != len(many(maxQueue))/5 {
		t.Errorf("Drop(4) of MaxQueue: %d", n)
	}
	for range n {
		put(t, q, api.Event{At: 1})
	}
	if e := q.Push(api.Event{At: 1}); e != errLong {
		t.Errorf("Push onto MaxQueue: %d", e)
	}
}

// P14.2, R5: a queue that no call made

func TestAQueueThatNoCallMade(t *testing.T) {
	for what, q := range map[string]*queue.Queue{"nil": nil, "zero": {}, "new": new(queue.Queue)} {
		for range 2 {
			for _, at := range []int64{0, 5, -1, maxTick + 1} {
				if e := q.Push(api.Event{At: at}); e != errMade {
					t.Errorf("%s: Push at %d: %d", what, at, e)
				}
			}
			if x, e := q.Pop(); x != (api.Event{}) || e != errMade {
				t.Errorf("%s: Pop: %+v %d", what, x, e)
			}
			if x, is := q.Peek(); x != (api.Event{}) || is {
				t.Errorf("%s: Peek: %+v %v", what, x, is)
			}
			for _, node := range []int{0, -1, 3} {
				if n := q.Drop(node); n != 0 {
					t.Errorf("%s: Drop(%d): %d", what, node, n)
				}
			}
			if q.Len() != 0 || q.Now() != 0 {
				t.Errorf("%s: Len %d, Now %d", what, q.Len(), q.Now())
			}
			if q.All() == nil {
				t.Errorf("%s: All is no iterator", what)
			}
			for x := range q.All() {
				t.Errorf("%s: All: %+v", what, x)
			}
		}
	}
}

// R2: with an error nothing has changed

func TestWithAnErrorNothingHasChanged(t *testing.T) {
	l := grid([]int{4, 9}, []int{1, 0}, []int{3, -1}, []int{0, 4})
	q := made(t, l...)
	first := pop(t, q)
	left := slices.Delete(inOrder(l), 0, 1)
	for _, at := range []int64{math.MinInt64, -1, 0, first.At - 1, maxTick + 1, math.MaxInt64} {
		for _, node := range []int{3, -1} {
			if e := q.Push(api.Event{At: at, Node: node}); e != errQueue {
				t.Errorf("Push at %d: %d", at, e)
			}
			wantQueue(t, q, first.At, left)
		}
	}
	if got := fmt.Sprint(taken(t, q)); got != fmt.Sprint(left) {
		t.Errorf("taken: %s", got)
	}
}
