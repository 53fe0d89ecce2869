package sched_test

import (
	"iter"
	"math"
	"slices"
	"testing"

	"metronome/api"
	"metronome/sched"
)

const (
	lastTick = 1_099_511_627_776 // MaxTick, as the document writes it: 2^40
	longest  = 16_777_216        // a slot's greatest length: 2^24
)

// span is short for a span.
func span(from, to int64) api.Span { return api.Span{From: from, To: to} }

// moments are some that there are, rising.
func moments() []int64 {
	return []int64{0, 1, 2, longest, lastTick / 2, lastTick - 1, lastTick}
}

// noMoments are some that there are not.
func noMoments() []int64 {
	return []int64{
		math.MinInt64, math.MinInt64 + 1, -lastTick - 1, -lastTick, math.MinInt32, -2, -1,
		lastTick + 1, 2 * lastTick, 1 << 62, math.MaxInt64 - 1, math.MaxInt64,
	}
}

// noSpans are spans that may not be, each in another way.
func noSpans() []api.Span {
	l := []api.Span{
		span(1, 0), span(5, 4), span(lastTick, 0), span(lastTick, lastTick-1),
		span(math.MinInt64, math.MaxInt64), span(math.MaxInt64, math.MinInt64), span(-5, lastTick+5),
	}
	for _, t := range noMoments() {
		l = append(l, span(t, t), span(t, 10), span(10, t))
	}
	return l
}

// grids are some that may be.
func grids() []api.Grid {
	var l []api.Grid
	for _, start := range []int64{0, 1, 7, 100, lastTick - 2*longest, lastTick - longest, lastTick - 100, lastTick - 1, lastTick} {
		for _, slot := range []int64{1, 2, 3, 10, 100, longest - 1, longest} {
			for n := 4; n <= 8; n++ {
				l = append(l, api.Grid{Start: start, Slot: slot, N: n})
			}
		}
	}
	return l
}

// noGrids are grids that may not be: one field just beyond its limits and far beyond, and all at once.
func noGrids() []api.Grid {
	l := []api.Grid{{}, {Start: -1, Slot: 0, N: 3}, {Start: math.MaxInt64, Slot: math.MinInt64, N: math.MaxInt}}
	for _, start := range noMoments() {
		l = append(l, api.Grid{Start: start, Slot: 10, N: 4})
	}
	for _, slot := range noLengths() {
		l = append(l, api.Grid{Start: 10, Slot: slot, N: 4})
	}
	for _, n := range noSizes() {
		l = append(l, api.Grid{Start: 10, Slot: 10, N: n})
	}
	return l
}

// noLengths are lengths that no slot has.
func noLengths() []int64 {
	return []int64{math.MinInt64, -longest, -1, 0, longest + 1, lastTick, math.MaxInt64}
}

// noSizes are counts of slots that no round has.
func noSizes() []int {
	return []int{math.MinInt, -4, -1, 0, 1, 2, 3, 9, 10, 16, math.MaxInt}
}

// small are all spans that may be of the moments from base to base + n.
func small(base, n int64) []api.Span {
	var l []api.Span
	for from := range n + 1 {
		for to := from; to <= n; to++ {
			l = append(l, span(base+from, base+to))
		}
	}
	return l
}

// bases are where small spans begin: the first moment, some moment, and where the last one is MaxTick.
func bases(n int64) []int64 { return []int64{0, 1000, lastTick - n} }

// momentsOf are the moments of spans that may be, each as the bit 2^(moment - base).
func momentsOf(base int64, l ...api.Span) uint64 {
	set := uint64(0)
	for _, s := range l {
		for t := s.From; t < s.To; t++ {
			set |= 1 << (t - base)
		}
	}
	return set
}

// together are a set's moments as spans: one for each run of moments, rising.
func together(base int64, set uint64) []api.Span {
	var l []api.Span
	for t := int64(0); t < 63; t++ {
		if set>>t&1 == 0 {
			continue
		}
		from := t
		for set>>t&1 == 1 {
			t++
		}
		l = append(l, span(base+from, base+t))
	}
	return l
}

// chance is a row of numbers by a fixed rule, another one for another start.
type chance uint64

func (c *chance) below(n int) int {
	*c = *c*6364136223846793005 + 1442695040888963407
	return int(uint64(*c>>33) % uint64(n))
}

// spans are n that may be, of moments from base to base + width.
func (c *chance) spans(base int64, width, n int) []api.Span {
	var l []api.Span
	for range n {
		a, b := c.below(width+1), c.below(width+1)
		l = append(l, span(base+int64(min(a, b)), base+int64(max(a, b))))
	}
	return l
}

// told is what an iterator over slots tells, up to a number of them.
type told struct {
	k int
	s api.Span
}

func collect(slots iter.Seq2[int, api.Span], most int) []told {
	var l []told
	for k, s := range slots {
		l = append(l, told{k, s})
		if len(l) >= most {
			break
		}
	}
	return l
}

// P6.1

func TestCheck(t *testing.T) {
	l := moments()
	for i, from := range l {
		for j, to := range l {
			want := api.OK
			if i > j {
				want = api.ErrSpan
			}
			if e := sched.Check(span(from, to)); e != want {
				t.Errorf("Check(%d to %d): %d; want %d", from, to, e, want)
			}
		}
	}
	if e := sched.Check(api.Span{}); e != api.OK {
		t.Errorf("Check of nothing: %d", e)
	}
}

func TestCheckRefuses(t *testing.T) {
	for _, s := range noSpans() {
		if e := sched.Check(s); e != api.ErrSpan {
			t.Errorf("Check(%v): %d; want ErrSpan", s, e)
		}
	}
	for _, a := range noMoments() {
		for _, b := range append(moments(), noMoments()...) {
			if sched.Check(span(a, b)) != api.ErrSpan || sched.Check(span(b, a)) != api.ErrSpan {
				t.Errorf("Check of %d and %d: not ErrSpan", a, b)
			}
		}
	}
}

func TestCheckGrid(t *testing.T) {
	for _, start := range moments() {
		for _, slot := range []int64{1, 2, 1000, longest - 1, longest} {
			for n := 4; n <= 8; n++ {
				g := api.Grid{Start: start, Slot: slot, N: n}
				if e := sched.CheckGrid(g); e != api.OK {
					t.Errorf("CheckGrid(%v): %d", g, e)
				}
			}
		}
	}
	for _, g := range noGrids() {
		if e := sched.CheckGrid(g); e != api.ErrGrid {
			t.Errorf("CheckGrid(%v): %d; want ErrGrid", g, e)
		}
	}
}

// P6.2: Meets and Within

func TestMeetsAndWithin(t *testing.T) {
	const n = 6
	for _, base := range bases(n) {
		l := small(base, n)
		for _, a := range l {
			for _, b := range l {
				meets := momentsOf(base, a)&momentsOf(base, b) != 0
				if got := sched.Meets(a, b); got != meets {
					t.Errorf("Meets(%v, %v): %v", a, b, got)
				}
				within := b.From <= a.From && a.To <= b.To
				if got := sched.Within(a, b); got != within {
					t.Errorf("Within(%v, %v): %v", a, b, got)
				}
			}
		}
	}
}

func TestMeetsAndWithinByHand(t *testing.T) {
	for _, x := range []struct {
		what          string
		a, b          api.Span
		meets         bool
		within, about bool // a within b, b within a
	}{
		{"equal", span(10, 20), span(10, 20), true, true, true},
		{"touching", span(10, 20), span(20, 30), false, false, false},
		{"in one moment", span(10, 21), span(20, 30), true, false, false},
		{"within", span(12, 18), span(10, 20), true, true, false},
		{"within, from the first moment on", span(10, 18), span(10, 20), true, true, false},
		{"within, up to the last moment", span(12, 20), span(10, 20), true, true, false},
		{"begins a moment too early", span(9, 20), span(10, 20), true, false, true},
		{"ends a moment too late", span(10, 21), span(10, 20), true, false, true},
		{"far apart", span(10, 20), span(30, 40), false, false, false},
		{"empty, within", span(15, 15), span(10, 20), false, true, false},
		{"empty, at the first moment", span(10, 10), span(10, 20), false, true, false},
		{"empty, at the end", span(20, 20), span(10, 20), false, true, false},
		{"empty, ahead", span(9, 9), span(10, 20), false, false, false},
		{"empty, behind", span(21, 21), span(10, 20), false, false, false},
		{"both empty, equal", span(15, 15), span(15, 15), false, true, true},
		{"both empty, apart", span(15, 15), span(16, 16), false, false, false},
		{"a moment of all", span(0, 1), span(0, lastTick), true, true, false},
		{"the last moment of all", span(lastTick-1, lastTick), span(0, lastTick), true, true, false},
		{"empty, at the last moment", span(lastTick, lastTick), span(0, lastTick), false, true, false},
		{"all, twice", span(0, lastTick), span(0, lastTick), true, true, true},
	} {
		if sched.Meets(x.a, x.b) != x.meets || sched.Meets(x.b, x.a) != x.meets {
			t.Errorf("Meets of %s: not %v", x.what, x.meets)
		}
		if sched.Within(x.a, x.b) != x.within || sched.Within(x.b, x.a) != x.about {
			t.Errorf("Within of %s: not %v, %v", x.what, x.within, x.about)
		}
	}
}

func TestMeetsAndWithinOfSpansThatMayNotBe(t *testing.T) {
	others := []api.Span{{}, span(0, 10), span(4, 5), span(5, 20), span(0, lastTick), span(lastTick, lastTick)}
	for _, no := range noSpans() {
		for _, s := range append(others, noSpans()...) {
			if sched.Meets(no, s) || sched.Meets(s, no) {
				t.Errorf("Meets of %v and %v", no, s)
			}
			if sched.Within(no, s) || sched.Within(s, no) {
				t.Errorf("Within of %v and %v", no, s)
			}
		}
	}
}

// P6.2: Shift

func TestShift(t *testing.T) {
	for _, s := range []api.Span{{}, span(0, 7), span(10, 20), span(10, 10), span(0, lastTick), span(lastTick, lastTick), span(lastTick-5, lastTick-1)} {
		down, up := -s.From, lastTick-s.To
		for _, by := range []int64{0, down, up, down + 1, up - 1, (down + up) / 2} {
			if by < down || by > up {
				continue
			}
			got, e := sched.Shift(s, by)
			if want := span(s.From+by, s.To+by); e != api.OK || got != want {
				t.Errorf("Shift(%v, %d): %v, %d; want %v", s, by, got, e, want)
			}
		}
		for _, by := range []int64{down - 1, up + 1, -lastTick - 1, lastTick + 1, math.MinInt64, math.MinInt64 + 1, math.MaxInt64, math.MaxInt64 - 1} {
			if got, e := sched.Shift(s, by); e != api.ErrSpan || got != (api.Span{}) {
				t.Errorf("Shift(%v, %d): %v, %d; want ErrSpan", s, by, got, e)
			}
		}
	}
}

func TestShiftByHand(t *testing.T) {
	for _, x := range []struct {
		s    api.Span
		by   int64
		want api.Span
	}{
		{span(10, 20), 5, span(15, 25)},
		{span(10, 20), -10, span(0, 10)},
		{span(10, 20), 0, span(10, 20)},
		{span(10, 20), lastTick - 20, span(lastTick-10, lastTick)},
		{span(0, 0), lastTick, span(lastTick, lastTick)},
		{span(lastTick, lastTick), -lastTick, span(0, 0)},
	} {
		if got, e := sched.Shift(x.s, x.by); e != api.OK || got != x.want {
			t.Errorf("Shift(%v, %d): %v, %d; want %v", x.s, x.by, got, e, x.want)
		}
	}
}

func TestShiftRefusesWhatMayNotBe(t *testing.T) {
	for _, s := range noSpans() {
		// Also by what would bring it to where a span may be.
		for _, by := range []int64{0, 1, -1, 10, -s.From, lastTick - s.To, math.MinInt64, math.MaxInt64} {
			if got, e := sched.Shift(s, by); e != api.ErrSpan || got != (api.Span{}) {
				t.Errorf("Shift(%v, %d): %v, %d; want ErrSpan", s, by, got, e)
			}
		}
	}
}

// P6.2: Norm and Total

func wantNorm(t *testing.T, l, want []api.Span) {
	t.Helper()
	got, e := sched.Norm(l...)
	if e != api.OK || !slices.Equal(got, want) {
		t.Errorf("Norm(%v): %v, %d; want %v", l, got, e, want)
	}
	n := int64(0)
	for _, s := range want {
		n += s.To - s.From
	}
	if got := sched.Total(l...); got != n {
		t.Errorf("Total(%v): %d; want %d", l, got, n)
	}
}

func TestNormExample(t *testing.T) {
	wantNorm(t, []api.Span{span(5, 8), span(1, 3), span(3, 4)}, []api.Span{span(1, 4), span(5, 8)})
}

func TestNormByHand(t *testing.T) {
	all := span(0, lastTick)
	for _, x := range []struct{ l, want []api.Span }{
		{nil, nil},
		{[]api.Span{}, nil},
		{[]api.Span{{}}, nil},
		{[]api.Span{span(3, 3), span(0, 0), span(lastTick, lastTick)}, nil},
		{[]api.Span{span(3, 4)}, []api.Span{span(3, 4)}},
		{[]api.Span{all}, []api.Span{all}},
		{[]api.Span{all, all, span(7, 9)}, []api.Span{all}},
		{[]api.Span{span(10, 20), span(20, 30)}, []api.Span{span(10, 30)}},
		{[]api.Span{span(10, 20), span(21, 30)}, []api.Span{span(10, 20), span(21, 30)}},
		{[]api.Span{span(10, 21), span(20, 30)}, []api.Span{span(10, 30)}},
		{[]api.Span{span(10, 30), span(15, 20), span(25, 28)}, []api.Span{span(10, 30)}},
		{[]api.Span{span(10, 30), span(15, 20), span(29, 31)}, []api.Span{span(10, 31)}},
		{[]api.Span{span(10, 20), span(10, 12), span(10, 25)}, []api.Span{span(10, 25)}},
		{[]api.Span{span(10, 20), span(15, 15), span(20, 20), span(10, 10)}, []api.Span{span(10, 20)}},
		// An empty span between two that nearly touch puts nothing together, nor one at the edge.
		{[]api.Span{span(10, 20), span(20, 20), span(21, 21), span(21, 30)}, []api.Span{span(10, 20), span(21, 30)}},
		{[]api.Span{span(lastTick-1, lastTick), span(0, 1)}, []api.Span{span(0, 1), span(lastTick-1, lastTick)}},
		{[]api.Span{span(1, lastTick), span(0, 1)}, []api.Span{all}},
	} {
		wantNorm(t, x.l, x.want)
	}
}

func TestNormOfAllPairsAndTriples(t *testing.T) {
	const n = 5
	for _, base := range bases(n) {
		l := small(base, n)
		for _, a := range l {
			for _, b := range l {
				wantNorm(t, []api.Span{a, b}, together(base, momentsOf(base, a, b)))
				for _, c := range l {
					wantNorm(t, []api.Span{a, b, c}, together(base, momentsOf(base, a, b, c)))
				}
			}
		}
	}
}

func TestNormOfMany(t *testing.T) {
	c := chance(6)
	for i := range 2000 {
		base := bases(60)[i%3]
		// Wide ones, and ones so short that many are empty and many gaps are left.
		l := c.spans(base, 60, c.below(6))
		for range c.below(30) {
			at := base + int64(c.below(58))
			l = append(l, span(at, at+int64(c.below(3))))
		}
		wantNorm(t, l, together(base, momentsOf(base, l...)))
	}
}

func TestNormRefuses(t *testing.T) {
	for _, no := range noSpans() {
		for _, l := range [][]api.Span{nil, {span(4, 4)}, {span(1, 3), span(0, 9), span(20, 30)}} {
			for at := range len(l) + 1 {
				with := slices.Insert(slices.Clone(l), at, no)
				if got, e := sched.Norm(with...); e != api.ErrSpan || got != nil {
					t.Errorf("Norm(%v): %v, %d; want ErrSpan", with, got, e)
				}
				if got := sched.Total(with...); got != 0 {
					t.Errorf("Total(%v): %d; want 0", with, got)
				}
			}
		}
	}
	if got, e := sched.Norm(noSpans()...); e != api.ErrSpan || got != nil {
		t.Errorf("Norm of nothing but such spans: %v, %d", got, e)
	}
}

// P6.2: Alone

func TestAloneOfAllTriples(t *testing.T) {
	const n = 4
	for _, base := range bases(n) {
		l := small(base, n)
		for _, a := range l {
			for _, b := range l {
				for _, c := range l {
					three := []api.Span{a, b, c}
					for i, s := range three {
						others := slices.Delete(slices.Clone(three), i, i+1)
						set := momentsOf(base, s)
						want := set != 0 && set&momentsOf(base, others...) == 0
						if got := sched.Alone(three, i); got != want {
							t.Fatalf("Alone(%v, %d): %v", three, i, got)
						}
					}
				}
			}
		}
	}
}

func TestAloneByHand(t *testing.T) {
	l := []api.Span{span(10, 20), span(20, 30), span(29, 35), span(15, 15), span(40, 50), span(40, 50), span(0, 10)}
	want := []bool{true, false, false, false, false, false, true}
	for i := range l {
		if got := sched.Alone(l, i); got != want[i] {
			t.Errorf("Alone(%v, %d): %v", l, i, got)
		}
	}
	if !sched.Alone([]api.Span{span(0, lastTick)}, 0) || sched.Alone([]api.Span{span(5, 5)}, 0) {
		t.Error("Alone of one")
	}
}

func TestAloneWhereThereIsNoSpan(t *testing.T) {
	for _, l := range [][]api.Span{nil, {}, {span(1, 2)}, {span(1, 2), span(3, 4), span(6, 9)}} {
		for _, i := range []int{math.MinInt, math.MinInt32, -len(l), -2, -1, len(l), len(l) + 1, math.MaxInt32, math.MaxInt} {
			if (i < 0 || i >= len(l)) && sched.Alone(l, i) {
				t.Errorf("Alone(%v, %d): true", l, i)
			}
		}
		for i := range l {
			if !sched.Alone(l, i) {
				t.Errorf("Alone(%v, %d): false", l, i)
			}
		}
	}
}

func TestAloneBesideSpansThatMayNotBe(t *testing.T) {
	for _, no := range noSpans() {
		l := []api.Span{no, span(1, 12), no, span(12, 20), no, span(20, 30), span(25, 26), no}
		want := []bool{false, true, false, true, false, false, false, false}
		for i := range l {
			if got := sched.Alone(l, i); got != want[i] {
				t.Errorf("Alone(%v, %d): %v", l, i, got)
			}
		}
		if sched.Alone([]api.Span{no}, 0) {
			t.Errorf("Alone of %v", no)
		}
	}
}

// P6.3: Slot

func TestSlot(t *testing.T) {
	for _, g := range grids() {
		last := int((lastTick-g.Start)/g.Slot) - 1 // the last slot that ends no later than MaxTick; -1: none does
		for _, k := range []int{0, 1, 2, 7, 8, last / 2, last - 1, last} {
			if k < 0 || k > last {
				continue
			}
			from := g.Start + int64(k)*g.Slot
			if s, e := sched.Slot(g, k); e != api.OK || s != span(from, from+g.Slot) {
				t.Errorf("Slot(%v, %d): %v, %d", g, k, s, e)
			}
		}
		// 2^40 slots of 2^24 and 2^63 of 2 are 2^64: nothing, to who wraps round.
		for _, k := range []int{-1, -2, -last, math.MinInt, math.MinInt32, last + 1, last + 2, lastTick + 1, 1 << 40, 1<<40 + 1, 1 << 60, 1 << 62, math.MaxInt - 1, math.MaxInt} {
			if k >= 0 && k <= last {
				continue
			}
			if s, e := sched.Slot(g, k); e != api.ErrArg || s != (api.Span{}) {
				t.Errorf("Slot(%v, %d): %v, %d; want ErrArg", g, k, s, e)
			}
		}
	}
}

func TestSlotByHand(t *testing.T) {
	for _, x := range []struct {
		g    api.Grid
		k    int
		want api.Span
	}{
		{api.Grid{Start: 100, Slot: 10, N: 4}, 0, span(100, 110)},
		{api.Grid{Start: 100, Slot: 10, N: 4}, 3, span(130, 140)},
		{api.Grid{Start: 100, Slot: 10, N: 4}, 4, span(140, 150)},
		{api.Grid{Start: 0, Slot: longest, N: 8}, 65535, span(lastTick-longest, lastTick)},
		{api.Grid{Start: 0, Slot: 1, N: 8}, lastTick - 1, span(lastTick-1, lastTick)},
		{api.Grid{Start: lastTick - 10, Slot: 10, N: 4}, 0, span(lastTick-10, lastTick)},
	} {
		if s, e := sched.Slot(x.g, x.k); e != api.OK || s != x.want {
			t.Errorf("Slot(%v, %d): %v, %d; want %v", x.g, x.k, s, e, x.want)
		}
	}
	for g, k := range map[api.Grid]int{
		{Start: 0, Slot: longest, N: 8}:       65536,
		{Start: 1, Slot: longest, N: 8}:       65535,
		{Start: 0, Slot: 1, N: 8}:             lastTick,
		{Start: lastTick - 9, Slot: 10, N: 4}: 0,
		{Start: lastTick, Slot: 1, N: 4}:      0,
	} {
		if s, e := sched.Slot(g, k); e != api.ErrArg || s != (api.Span{}) {
			t.Errorf("Slot(%v, %d): %v, %d; want ErrArg", g, k, s, e)
		}
	}
}

// P6.3: SlotOf

func TestSlotOf(t *testing.T) {
	for _, g := range grids() {
		for _, k := range []int64{0, 1, 2, 7, 65535, (lastTick - g.Start) / g.Slot} {
			first := g.Start + k*g.Slot
			for _, at := range []int64{first, first + g.Slot/2, first + g.Slot - 1} {
				if at > lastTick {
					continue
				}
				if got, e := sched.SlotOf(g, at); e != api.OK || int64(got) != k {
					t.Errorf("SlotOf(%v, %d): %d, %d; want %d", g, at, got, e, k)
				}
			}
		}
		if got, e := sched.SlotOf(g, lastTick); e != api.OK || int64(got) != (lastTick-g.Start)/g.Slot {
			t.Errorf("SlotOf(%v, the last moment): %d, %d", g, got, e)
		}
		for _, at := range append(noMoments(), g.Start-1, -g.Start-1) {
			if got, e := sched.SlotOf(g, at); e != api.ErrNone || got != 0 {
				t.Errorf("SlotOf(%v, %d): %d, %d; want ErrNone", g, at, got, e)
			}
		}
	}
}

func TestSlotOfByHand(t *testing.T) {
	g := api.Grid{Start: 100, Slot: 10, N: 4}
	for at, want := range map[int64]int{100: 0, 109: 0, 110: 1, 137: 3, 139: 3, 140: 4, lastTick: 109951162767} {
		if got, e := sched.SlotOf(g, at); e != api.OK || got != want {
			t.Errorf("SlotOf(%v, %d): %d, %d; want %d", g, at, got, e, want)
		}
	}
	for _, at := range []int64{0, 99} {
		if got, e := sched.SlotOf(g, at); e != api.ErrNone || got != 0 {
			t.Errorf("SlotOf(%v, %d): %d, %d; want ErrNone", g, at, got, e)
		}
	}
}

// P6.3: Next

// walked is what Next should be, found step by step from the slot 0 on.
func walked(g api.Grid, at int64, pos int) int {
	k, begins, of := 0, g.Start, 0
	for begins < at || of != pos {
		k++
		begins += g.Slot
		of++
		if of == g.N {
			of = 0
		}
	}
	return k
}

func TestNextStepByStep(t *testing.T) {
	for n := 4; n <= 8; n++ {
		for _, slot := range []int64{1, 2, 3, 10} {
			for _, start := range []int64{0, 1, 23, lastTick - 40, lastTick - 1, lastTick} {
				g := api.Grid{Start: start, Slot: slot, N: n}
				first := max(0, start-2*slot*int64(n))
				for at := first; at <= min(lastTick, start+3*slot*int64(n)); at++ {
					for pos := range n {
						if got, e := sched.Next(g, at, pos); e != api.OK || got != walked(g, at, pos) {
							t.Fatalf("Next(%v, %d, %d): %d, %d; want %d", g, at, pos, got, e, walked(g, at, pos))
						}
					}
				}
			}
		}
	}
}

func TestNextByHand(t *testing.T) {
	g := api.Grid{Start: 100, Slot: 10, N: 4}
	for _, x := range []struct {
		g    api.Grid
		at   int64
		pos  int
		want int
	}{
		{g, 101, 0, 4},
		{g, 100, 0, 0},
		{g, 0, 0, 0},
		{g, 0, 3, 3},
		{g, 99, 2, 2},
		{g, 110, 1, 1},
		{g, 111, 1, 5},
		{g, 111, 2, 2},
		{g, 140, 3, 7},
		{api.Grid{Start: 0, Slot: 1, N: 4}, lastTick, 0, 1 << 40},
		{api.Grid{Start: 0, Slot: 1, N: 4}, lastTick, 3, 1<<40 + 3},
		{api.Grid{Start: 1, Slot: 1, N: 4}, lastTick, 2, 1<<40 + 2},
		{api.Grid{Start: 0, Slot: longest, N: 8}, lastTick, 0, 65536},
		{api.Grid{Start: 0, Slot: longest, N: 8}, lastTick, 7, 65543},
		{api.Grid{Start: 1, Slot: longest, N: 8}, lastTick, 0, 65536},
		{api.Grid{Start: lastTick, Slot: longest, N: 5}, 0, 4, 4},
		{api.Grid{Start: lastTick, Slot: longest, N: 5}, lastTick, 0, 0},
	} {
		if got, e := sched.Next(x.g, x.at, x.pos); e != api.OK || got != x.want {
			t.Errorf("Next(%v, %d, %d): %d, %d; want %d", x.g, x.at, x.pos, got, e, x.want)
		}
	}
}

func TestNextRefuses(t *testing.T) {
	for _, g := range grids() {
		for _, pos := range []int{math.MinInt, -g.N, -1, g.N, g.N + 1, math.MaxInt} {
			for _, at := range append(moments(), -1, lastTick+1) {
				if got, e := sched.Next(g, at, pos); e != api.ErrArg || got != 0 {
					t.Errorf("Next(%v, %d, %d): %d, %d; want ErrArg", g, at, pos, got, e)
				}
			}
		}
		for _, at := range noMoments() {
			for pos := range g.N {
				if got, e := sched.Next(g, at, pos); e != api.ErrArg || got != 0 {
					t.Errorf("Next(%v, %d, %d): %d, %d; want ErrArg", g, at, pos, got, e)
				}
			}
		}
	}
}

func TestNextTakesAllPlacesAndMoments(t *testing.T) {
	for _, g := range grids() {
		for pos := range g.N {
			for _, at := range moments() {
				if _, e := sched.Next(g, at, pos); e != api.OK {
					t.Errorf("Next(%v, %d, %d): %d", g, at, pos, e)
				}
			}
		}
	}
}

// P6.3: Slots

// within are the slots that Slots should tell, found one by one from the slot 0 on.
func within(g api.Grid, s api.Span) []told {
	var l []told
	k := 0
	for begins := g.Start; begins < s.To && begins+g.Slot <= lastTick; begins += g.Slot {
		if begins >= s.From {
			l = append(l, told{k, span(begins, begins+g.Slot)})
		}
		k++
	}
	return l
}

func TestSlots(t *testing.T) {
	for n := 4; n <= 8; n++ {
		for _, slot := range []int64{1, 3, 7} {
			for _, start := range []int64{0, 5, lastTick - 25, lastTick - slot, lastTick - slot + 1, lastTick} {
				g := api.Grid{Start: start, Slot: slot, N: n}
				base := min(max(0, start-5), lastTick-25)
				for _, s := range small(base, 25) {
					got, want := collect(sched.Slots(g, s), math.MaxInt), within(g, s)
					if !slices.Equal(got, want) {
						t.Fatalf("Slots(%v, %v): %v; want %v", g, s, got, want)
					}
				}
			}
		}
	}
}

func TestSlotsByHand(t *testing.T) {
	g := api.Grid{Start: 100, Slot: 10, N: 4}
	last := api.Grid{Start: lastTick - 30, Slot: 10, N: 8}
	cut := api.Grid{Start: lastTick - 25, Slot: 10, N: 8}
	for _, x := range []struct {
		what string
		g    api.Grid
		s    api.Span
		want []told
	}{
		{"empty, at a slot's first moment", g, span(110, 110), nil},
		{"empty, of nothing", g, span(0, 0), nil},
		{"from a first moment on", g, span(110, 111), []told{{1, span(110, 120)}}},
		{"from one behind it on", g, span(111, 120), nil},
		{"up to a first moment", g, span(101, 110), nil},
		{"up to one behind it", g, span(101, 111), []told{{1, span(110, 120)}}},
		{"of two", g, span(105, 130), []told{{1, span(110, 120)}, {2, span(120, 130)}}},
		{"ahead of Start", g, span(0, 100), nil},
		{"ahead of Start and just there", g, span(0, 101), []told{{0, span(100, 110)}}},
		{"up to MaxTick", last, span(lastTick-20, lastTick), []told{{1, span(lastTick-20, lastTick-10)}, {2, span(lastTick-10, lastTick)}}},
		{"up to MaxTick, with one that ends behind it", cut, span(lastTick-20, lastTick), []told{{1, span(lastTick-15, lastTick-5)}}},
		{"where all end behind it", api.Grid{Start: lastTick - 9, Slot: 10, N: 4}, span(0, lastTick), nil},
		{"from MaxTick on", api.Grid{Start: lastTick, Slot: 1, N: 4}, span(0, lastTick), nil},
		{"the last of all", api.Grid{Start: 0, Slot: longest, N: 4}, span(lastTick-longest, lastTick), []told{{65535, span(lastTick-longest, lastTick)}}},
	} {
		if got := collect(sched.Slots(x.g, x.s), math.MaxInt); !slices.Equal(got, x.want) {
			t.Errorf("Slots %s: %v; want %v", x.what, got, x.want)
		}
	}
}

func TestSlotsOfWhatMayNotBe(t *testing.T) {
	for _, g := range noGrids() {
		for _, s := range append(noSpans(), span(0, 100), span(0, lastTick)) {
			if got := collect(sched.Slots(g, s), 9); got != nil {
				t.Errorf("Slots(%v, %v): %v", g, s, got)
			}
		}
	}
	for _, s := range noSpans() {
		for _, g := range grids() {
			if got := collect(sched.Slots(g, s), 9); got != nil {
				t.Errorf("Slots(%v, %v): %v", g, s, got)
			}
		}
	}
}

func TestSlotsLeftEarlyAndTwice(t *testing.T) {
	g, s := api.Grid{Start: 100, Slot: 10, N: 4}, span(95, 136)
	all := []told{{0, span(100, 110)}, {1, span(110, 120)}, {2, span(120, 130)}, {3, span(130, 140)}}
	slots := sched.Slots(g, s)
	for most := 1; most <= len(all); most++ {
		if got := collect(slots, most); !slices.Equal(got, all[:most]) {
			t.Errorf("Slots, left behind %d: %v", most, got)
		}
	}
	for i := range 2 {
		if got := collect(slots, math.MaxInt); !slices.Equal(got, all) {
			t.Errorf("Slots, time %d: %v", i, got)
		}
	}
	// One range within another: neither moves the other one on.
	var pairs []int
	for a := range slots {
		for b := range slots {
			pairs = append(pairs, 10*a+b)
		}
	}
	if !slices.Equal(pairs, []int{0, 1, 2, 3, 10, 11, 12, 13, 20, 21, 22, 23, 30, 31, 32, 33}) {
		t.Errorf("Slots within Slots: %v", pairs)
	}
}

// R1: the error that is named first

func TestTheErrorNamedFirst(t *testing.T) {
	for _, g := range noGrids() {
		for _, k := range []int{0, 5, -1, math.MinInt, math.MaxInt} {
			if s, e := sched.Slot(g, k); e != api.ErrGrid || s != (api.Span{}) {
				t.Errorf("Slot(%v, %d): %v, %d; want ErrGrid", g, k, s, e)
			}
		}
		for _, at := range append(moments(), noMoments()...) {
			if k, e := sched.SlotOf(g, at); e != api.ErrGrid || k != 0 {
				t.Errorf("SlotOf(%v, %d): %d, %d; want ErrGrid", g, at, k, e)
			}
			for _, pos := range []int{0, 3, -1, 8, math.MinInt, math.MaxInt} {
				if k, e := sched.Next(g, at, pos); e != api.ErrGrid || k != 0 {
					t.Errorf("Next(%v, %d, %d): %d, %d; want ErrGrid", g, at, pos, k, e)
				}
			}
		}
	}
}

// P6.4

func TestEachMomentOnce(t *testing.T) {
	const width = 50
	c := chance(64)
	for i := range 1000 {
		base := bases(width)[i%3]
		l := c.spans(base, width, c.below(5))
		for range c.below(12) {
			at := base + int64(c.below(width-3))
			l = append(l, span(at, at+int64(c.below(4))))
		}
		got, e := sched.Norm(l...)
		if e != api.OK || momentsOf(base, got...) != momentsOf(base, l...) {
			t.Fatalf("Norm(%v): %v, %d", l, got, e)
		}
		for j, s := range got {
			if s.From >= s.To || j > 0 && got[j-1].To >= s.From {
				t.Fatalf("Norm(%v): %v", l, got)
			}
		}
		again, e := sched.Norm(got...)
		if e != api.OK || !slices.Equal(again, got) {
			t.Fatalf("Norm of %v, which is Norm's: %v, %d", got, again, e)
		}
		for range 4 {
			for j := range l {
				k := c.below(j + 1)
				l[j], l[k] = l[k], l[j]
			}
			if other, e := sched.Norm(l...); e != api.OK || !slices.Equal(other, got) {
				t.Fatalf("Norm in another order: %v, %d; want %v", other, e, got)
			}
		}
	}
}

// P6.5

// around are moments at and near edges of a grid's slots, from Start on.
func around(g api.Grid) []int64 {
	var l []int64
	for _, k := range []int64{0, 1, 2, 3, 4, 5, 7, 8, 9, 65535, 65536, (lastTick - g.Start) / g.Slot} {
		for _, by := range []int64{-1, 0, 1} {
			if t := g.Start + k*g.Slot + by; t >= g.Start && t <= lastTick {
				l = append(l, t)
			}
		}
	}
	return l
}

func TestEachMomentLiesInItsSlot(t *testing.T) {
	for _, g := range grids() {
		for _, at := range around(g) {
			k, e := sched.SlotOf(g, at)
			if e != api.OK {
				t.Fatalf("SlotOf(%v, %d): %d", g, at, e)
			}
			s, e := sched.Slot(g, k)
			// The last slot may end behind MaxTick: then it is not told.
			if e == api.ErrArg && g.Start+int64(k+1)*g.Slot > lastTick {
				continue
			}
			if e != api.OK || at < s.From || at >= s.To {
				t.Fatalf("SlotOf(%v, %d): %d, which is %v, %d", g, at, k, s, e)
			}
		}
	}
}

func TestTwoSlotsNeverMeet(t *testing.T) {
	for _, g := range grids() {
		var l []api.Span
		for _, k := range []int{0, 1, 2, 3, 8, 9, 1000, 65534, 65535} {
			if s, e := sched.Slot(g, k); e == api.OK {
				l = append(l, s)
			}
		}
		for i := range l {
			if !sched.Alone(l, i) {
				t.Fatalf("slots of %v: %v meets another one", g, l[i])
			}
		}
	}
}

func TestNextHasItsPlaceAndIsTheFirst(t *testing.T) {
	for _, g := range grids() {
		for _, at := range append(around(g), 0, g.Start/2, max(0, g.Start-1)) {
			for pos := range g.N {
				k, e := sched.Next(g, at, pos)
				begins := g.Start + int64(k)*g.Slot
				if e != api.OK || k < 0 || k%g.N != pos || begins < at {
					t.Fatalf("Next(%v, %d, %d): %d, %d", g, at, pos, k, e)
				}
				if k >= g.N && begins-int64(g.N)*g.Slot >= at {
					t.Fatalf("Next(%v, %d, %d): %d; a round ahead is no earlier than that, too", g, at, pos, k)
				}
			}
		}
	}
}

// P6.6

func TestTogether(t *testing.T) {
	const n = 4
	for _, base := range bases(n) {
		l := append(small(base, n), span(base+1, base), span(-1, base+2), span(base, lastTick+1))
		for _, a := range l {
			for _, b := range l {
				if sched.Meets(a, b) != sched.Meets(b, a) {
					t.Fatalf("Meets of %v and %v is not the same both ways", a, b)
				}
				for _, c := range l {
					if sched.Within(a, b) && sched.Meets(a, c) && !sched.Meets(b, c) {
						t.Fatalf("%v is Within %v; what it meets, %v, that one does not", a, b, c)
					}
				}
			}
		}
	}
}

// R3

func TestNothingIsChanged(t *testing.T) {
	whole := []api.Span{span(50, 60), span(5, 8), span(3, 3), span(1, 6), span(60, 61), span(0, 0), span(70, 80), span(71, 72)}
	before := slices.Clone(whole)
	// With room behind the part that is handed in: nobody may write there.
	for _, l := range [][]api.Span{whole, whole[:4], whole[:1], whole[4:5]} {
		sched.Norm(l...)
		sched.Total(l...)
		for i := range l {
			sched.Alone(l, i)
		}
		if !slices.Equal(whole, before) {
			t.Fatalf("changed: %v", whole)
		}
	}
	whole[7] = span(9, 2)
	before = slices.Clone(whole)
	sched.Norm(whole...)
	sched.Total(whole...)
	sched.Alone(whole, 0)
	if !slices.Equal(whole, before) {
		t.Fatalf("changed, beside an error: %v", whole)
	}
}

func TestNothingIsShared(t *testing.T) {
	for _, l := range [][]api.Span{
		{span(1, 2)},
		{span(1, 2), span(4, 5), span(7, 9)}, // nothing is to be put together
		{span(7, 9), span(1, 2), span(2, 5)},
		{span(0, lastTick), span(3, 4)},
	} {
		before := slices.Clone(l)
		got, _ := sched.Norm(l...)
		other, _ := sched.Norm(l...)
		want := slices.Clone(got)
		for i := range got {
			got[i] = span(-7, -7)
		}
		_ = append(got, span(-8, -8))
		if !slices.Equal(l, before) || !slices.Equal(other, want) {
			t.Fatalf("who changes Norm's changes %v, which was %v, or %v, which was %v", l, before, other, want)
		}
		for i := range l {
			l[i] = span(-9, -9)
		}
		if !slices.Equal(other, want) {
			t.Fatalf("who changes what was handed in changes %v, which was %v", other, want)
		}
	}
}

func TestSlotsTellWhatWasThere(t *testing.T) {
	g, s := api.Grid{Start: 100, Slot: 10, N: 4}, span(105, 121)
	slots := sched.Slots(g, s)
	g.Slot, s.From = 1, 0
	if got := collect(slots, 9); !slices.Equal(got, []told{{1, span(110, 120)}, {2, span(120, 130)}}) {
		t.Errorf("Slots: %v", got)
	}
}

// Bound: none of these ends in time by whoever goes through moments, or slots, one by one.

func TestBound(t *testing.T) {
	g := api.Grid{Start: 0, Slot: 1, N: 8}
	for range 1000 {
		wantNorm(t, []api.Span{span(0, lastTick), span(5, lastTick-5)}, []api.Span{span(0, lastTick)})
		if k, e := sched.SlotOf(g, lastTick); e != api.OK || k != 1<<40 {
			t.Fatalf("SlotOf: %d, %d", k, e)
		}
		if k, e := sched.Next(g, lastTick-3, 4); e != api.OK || k != 1<<40+4 {
			t.Fatalf("Next: %d, %d", k, e)
		}
		if s, e := sched.Slot(g, lastTick-1); e != api.OK || s != span(lastTick-1, lastTick) {
			t.Fatalf("Slot: %v, %d", s, e)
		}
		if got := collect(sched.Slots(g, span(0, lastTick)), 2); !slices.Equal(got, []told{{0, span(0, 1)}, {1, span(1, 2)}}) {
			t.Fatalf("Slots, left early: %v", got)
		}
		want := []told{{lastTick - 2, span(lastTick-2, lastTick-1)}, {lastTick - 1, span(lastTick-1, lastTick)}}
		if got := collect(sched.Slots(g, span(lastTick-2, lastTick)), 9); !slices.Equal(got, want) {
			t.Fatalf("Slots, far behind Start: %v", got)
		}
	}
}

func TestBoundOfManySpans(t *testing.T) {
	const n = 1 << 17
	var l, gaps []api.Span
	for i := range int64(n) {
		l = append(l, span(3*(n-i), 3*(n-i)+3)) // each touches the one before it
		gaps = append(gaps, span(4*i, 4*i+3))
	}
	wantNorm(t, l, []api.Span{span(3, 3*n+3)})
	wantNorm(t, gaps, gaps)
	if !sched.Alone(gaps, n-1) || sched.Alone(append(gaps, span(0, lastTick)), n-1) {
		t.Error("Alone of many")
	}
}

// P1

func TestNothingPanics(t *testing.T) {
	numbers := append(noMoments(), 0, 1, 3, 4, 5, 8, 9, longest, longest+1, lastTick-1, lastTick)
	r := chance(1)
	pick := func() int64 { return numbers[r.below(len(numbers))] }
	for range 50000 {
		a, b := span(pick(), pick()), span(pick(), pick())
		g := api.Grid{Start: pick(), Slot: pick(), N: int(pick())}
		if r.below(2) == 0 {
			g = grids()[r.below(len(grids()))]
		}
		k, at := int(pick()), pick()
		sched.Meets(a, b)
		sched.Within(a, b)
		if s, e := sched.Shift(a, at); e != api.OK && s != (api.Span{}) || e == api.OK && sched.Check(s) != api.OK {
			t.Fatalf("Shift(%v, %d): %v, %d", a, at, s, e)
		}
		sched.Norm(a, b)
		if n := sched.Total(a, b); n < 0 || n > lastTick {
			t.Fatalf("Total(%v, %v): %d", a, b, n)
		}
		sched.Alone([]api.Span{a, b}, k)
		if s, e := sched.Slot(g, k); e != api.OK && s != (api.Span{}) || e == api.OK && sched.Check(s) != api.OK {
			t.Fatalf("Slot(%v, %d): %v, %d", g, k, s, e)
		}
		if n, e := sched.SlotOf(g, at); n < 0 || e != api.OK && n != 0 {
			t.Fatalf("SlotOf(%v, %d): %d, %d", g, at, n, e)
		}
		if n, e := sched.Next(g, at, k); n < 0 || e != api.OK && n != 0 {
			t.Fatalf("Next(%v, %d, %d): %d, %d", g, at, k, n, e)
		}
		collect(sched.Slots(g, a), 5)
	}
}
