package fta_test

import (
	"math"
	"math/big"
	"slices"
	"testing"

	"metronome/api"
	"metronome/fta"
)

const (
	most      = 1_099_511_627_776 // MaxOff, as the document writes it: 2^40
	mostClock = 274_877_906_944   // a quarter of it
)

// list is short for a list of numbers.
func list(l ...int64) []int64 { return l }

// tooGreat are numbers that are beyond most, or below -most.
func tooGreat(most int64) []int64 {
	return []int64{math.MinInt64, math.MinInt64 + 1, -2*most - 1, -2 * most, -most - 1, most + 1, 2 * most, 2*most + 1, math.MaxInt64 - 1, math.MaxInt64}
}

// without is a list without the place i.
func without(l []int64, i int) []int64 { return slices.Delete(slices.Clone(l), i, i+1) }

// ends are where the least and the greatest number stand; they are found by going through all.
func ends(l []int64) (int, int) {
	least, greatest := 0, 0
	for i, n := range l {
		if n < l[least] {
			least = i
		}
		if n > l[greatest] {
			greatest = i
		}
	}
	return least, greatest
}

// kept is what Kept should tell of numbers that may be: four or more lose one least and one greatest one.
func kept(l []int64) (int64, int64) {
	if len(l) >= 4 {
		least, _ := ends(l)
		l = without(l, least)
		_, greatest := ends(l)
		l = without(l, greatest)
	}
	least, greatest := ends(l)
	return l[least], l[greatest]
}

// half is half of two numbers together, rounded down; a float64 holds them exactly.
func half(a, b int64) int64 { return int64(math.Floor(float64(a+b) / 2)) }

// midpoint is what Midpoint should be of numbers that may be.
func midpoint(l []int64) int64 { return half(kept(l)) }

// spread is what Spread should be: as many bits of the difference as an int64 has.
func spread(l []int64) int64 {
	if len(l) == 0 {
		return 0
	}
	least, greatest := ends(l)
	n := new(big.Int).Sub(big.NewInt(l[greatest]), big.NewInt(l[least]))
	n.And(n, new(big.Int).SetUint64(math.MaxUint64))
	return int64(n.Uint64())
}

// wantKept holds Kept and Midpoint against what they should be.
func wantKept(t *testing.T, l []int64, least, greatest int64) {
	t.Helper()
	if a, b, e := fta.Kept(l...); a != least || b != greatest || e != api.OK {
		t.Errorf("Kept(%v): %d, %d, %d; want %d, %d", l, a, b, e, least, greatest)
	}
	if n, e := fta.Midpoint(l...); n != half(least, greatest) || e != api.OK {
		t.Errorf("Midpoint(%v): %d, %d; want %d", l, n, e, half(least, greatest))
	}
}

// wantNotKept asks Kept and Midpoint for an error, and nothing beside it.
func wantNotKept(t *testing.T, l []int64, want api.Errno) {
	t.Helper()
	if a, b, e := fta.Kept(l...); a != 0 || b != 0 || e != want {
		t.Errorf("Kept(%v): %d, %d, %d; want error %d", l, a, b, e, want)
	}
	if n, e := fta.Midpoint(l...); n != 0 || e != want {
		t.Errorf("Midpoint(%v): %d, %d; want error %d", l, n, e, want)
	}
}

// allOf are all lists of n numbers from -to to to.
func allOf(n int, to int64) [][]int64 {
	l := [][]int64{nil}
	for range n {
		var longer [][]int64
		for _, x := range l {
			for v := -to; v <= to; v++ {
				longer = append(longer, append(slices.Clone(x), v))
			}
		}
		l = longer
	}
	return l
}

// chance is a row of numbers by a fixed rule, another one for another start.
type chance uint64

func (c *chance) next() uint64 {
	*c = *c*6364136223846793005 + 1442695040888963407
	return uint64(*c >> 20)
}

func (c *chance) below(n int) int { return int(c.next() % uint64(n)) }

// upTo is a number from -to to to, now and then one of its edges.
func (c *chance) upTo(to int64) int64 {
	switch c.below(12) {
	case 0:
		return to
	case 1:
		return -to
	}
	return int64(c.next()%uint64(2*to+1)) - to
}

// numbers are n from -to to to.
func (c *chance) numbers(n int, to int64) []int64 {
	l := make([]int64, n)
	for i := range l {
		l[i] = c.upTo(to)
	}
	return l
}

// rows are n rows of n numbers from -to to to.
func (c *chance) rows(n int, to int64) [][]int64 {
	l := make([][]int64, n)
	for i := range l {
		l[i] = c.numbers(n, to)
	}
	return l
}

// width is how far numbers may reach: some few, so that many are the same, or more, up to a limit.
func (c *chance) width(to int64) int64 {
	return min(to, []int64{1, 2, 5, 100, 1 << 20, math.MaxInt64}[c.below(6)])
}

// P8.1: Kept and Midpoint

func TestKeptByHand(t *testing.T) {
	for _, x := range []struct {
		l               []int64
		least, greatest int64
		middle          int64
	}{
		{list(0), 0, 0, 0},
		{list(7), 7, 7, 7},
		{list(-7), -7, -7, -7},
		{list(5, -4), -4, 5, 0}, // the chapter's
		{list(-4, 5), -4, 5, 0},
		{list(4, -5), -5, 4, -1},
		{list(1, 2), 1, 2, 1},
		{list(-1, -2), -2, -1, -2},
		{list(-1, 0), -1, 0, -1},
		{list(0, 1), 0, 1, 0},
		{list(3, 3), 3, 3, 3},
		{list(100, 7, -100), -100, 100, 0}, // of three both ends are left
		{list(9, 1, 4), 1, 9, 5},
		{list(2, 2, 9), 2, 9, 5},
		{list(-9, -2, -2), -9, -2, -6},
		{list(5, 1, 9, 2), 2, 5, 3}, // the chapter's
		{list(-5, -1, -9, -2), -5, -2, -4},
		{list(1, 1, 9, 9), 1, 9, 5},
		{list(1, 1, 1, 9), 1, 1, 1},
		{list(1, 9, 9, 9), 9, 9, 9},
		{list(6, 6, 6, 6), 6, 6, 6},
		{list(0, 100, 1<<30, -1<<30), 0, 100, 50},
		{list(4, 4, 4, 9, 1), 4, 4, 4},
		{list(1, 2, 3, 4, 5), 2, 4, 3},
		{list(5, 4, 3, 2, 2), 2, 4, 3},
		{list(1, 1, 3, 5, 5), 1, 5, 3},
		{list(8, 6, 4, 2, 0, -3), 0, 6, 3},
		{list(most), most, most, most},
		{list(-most), -most, -most, -most},
		{list(most, most), most, most, most},
		{list(most, most-1), most - 1, most, most - 1},
		{list(-most, -most+1), -most, -most + 1, -most},
		{list(-most, most), -most, most, 0},
		{list(-most, most-1), -most, most - 1, -1},
		{list(most, 0, -most), -most, most, 0},
		{list(-most, most, 0, 0), 0, 0, 0},
		{list(most, most, -most, -most), -most, most, 0},
		{list(most, most, most, most), most, most, most},
		{list(-most, -most, -most, -most), -most, -most, -most},
		{list(-most, -most, -most, 5, most), -most, 5, (5 - most - 1) / 2},
	} {
		wantKept(t, x.l, x.least, x.greatest)
		if n, e := fta.Midpoint(x.l...); n != x.middle || e != api.OK {
			t.Errorf("Midpoint(%v): %d, %d; want %d", x.l, n, e, x.middle)
		}
	}
}

func TestKeptOfAllFewNumbers(t *testing.T) {
	for n := 1; n <= 6; n++ {
		for _, l := range allOf(n, 2) {
			least, greatest := kept(l)
			wantKept(t, l, least, greatest)
		}
	}
}

func TestKeptOfChance(t *testing.T) {
	c := chance(81)
	for range 20000 {
		l := c.numbers(1+c.below(12), c.width(most))
		least, greatest := kept(l)
		wantKept(t, l, least, greatest)
	}
}

func TestMidpointRoundsDown(t *testing.T) {
	for n := int64(-50); n <= 50; n++ {
		// 2 * n and 1 together are halved to n, on both sides of 0.
		for apart := int64(1); apart < 20; apart += 2 {
			a := n - apart/2
			b := 2*n + 1 - a
			wantMidpoint(t, list(a, b), n)
			wantMidpoint(t, list(b, a), n)
			wantMidpoint(t, list(b+1000, a, a-1000, b), n)
			wantMidpoint(t, list(b, a, a-1, a, b+1), n)
		}
		wantMidpoint(t, list(n), n)
		wantMidpoint(t, list(n, n, n, n), n)
	}
}

// wantMidpoint holds Midpoint against what it should be.
func wantMidpoint(t *testing.T, l []int64, want int64) {
	t.Helper()
	if n, e := fta.Midpoint(l...); n != want || e != api.OK {
		t.Errorf("Midpoint(%v): %d, %d; want %d", l, n, e, want)
	}
}

func TestKeptOfNoNumbers(t *testing.T) {
	wantNotKept(t, nil, api.ErrNone)
	wantNotKept(t, []int64{}, api.ErrNone)
	wantNotKept(t, make([]int64, 0, 9), api.ErrNone)
	if _, _, e := fta.Kept(); e != api.ErrNone {
		t.Errorf("Kept(): %d; want ErrNone", e)
	}
	if _, e := fta.Midpoint(); e != api.ErrNone {
		t.Errorf("Midpoint(): %d; want ErrNone", e)
	}
}

// TestKeptRefuses puts a number that is too great at each place of lists, also of those that would leave it out.
func TestKeptRefuses(t *testing.T) {
	c := chance(82)
	for n := 1; n <= 9; n++ {
		for at := range n {
			for _, great := range tooGreat(most) {
				l := make([]int64, n)
				l[at] = great
				wantNotKept(t, l, api.ErrOff)
				l = c.numbers(n, most)
				l[at] = great
				wantNotKept(t, l, api.ErrOff)
				l[c.below(n)] = great
				l[c.below(n)] = -great
				if slices.ContainsFunc(l, func(v int64) bool { return v < -most || v > most }) {
					wantNotKept(t, l, api.ErrOff)
				}
			}
		}
	}
	for _, l := range [][]int64{
		{math.MinInt64, math.MaxInt64}, {math.MinInt64, math.MinInt64, math.MaxInt64, math.MaxInt64},
		{math.MaxInt64, 0, 0, math.MinInt64}, {math.MinInt64, -1, -1, -1}, {math.MaxInt64, math.MaxInt64, math.MaxInt64, math.MaxInt64},
	} {
		wantNotKept(t, l, api.ErrOff)
	}
}

// P8.1: Spread

func TestSpreadByHand(t *testing.T) {
	for _, x := range []struct {
		l    []int64
		want int64
	}{
		{nil, 0},
		{[]int64{}, 0},
		{list(0), 0},
		{list(5), 0},
		{list(-5), 0},
		{list(math.MinInt64), 0},
		{list(math.MaxInt64), 0},
		{list(3, -5, 4), 9},
		{list(1, 2), 1},
		{list(2, 1), 1},
		{list(-7, -3), 4},
		{list(6, 6, 6, 6, 6), 0},
		{list(0, 100, 50, -100, 7), 200}, // nothing is left out
		{list(-most, most), 2 * most},
		{list(-most-1, most+1), 2*most + 2}, // nothing is too great
		{list(math.MinInt64, -1), math.MaxInt64},
		{list(0, math.MaxInt64), math.MaxInt64},
		{list(-1, math.MaxInt64), math.MinInt64},
		{list(0, math.MinInt64), math.MinInt64},
		{list(-2, math.MaxInt64), math.MinInt64 + 1},
		{list(math.MinInt64, math.MaxInt64), -1},
		{list(0, math.MaxInt64, -5, math.MinInt64), -1},
		{list(math.MinInt64, math.MaxInt64-1), -2},
		{list(math.MinInt64, math.MinInt64, math.MinInt64), 0},
		{list(math.MaxInt64, math.MaxInt64, math.MaxInt64, math.MaxInt64), 0},
	} {
		wantSpread(t, x.l, x.want)
	}
	if n := fta.Spread(); n != 0 {
		t.Errorf("Spread(): %d; want 0", n)
	}
}

// wantSpread holds Spread against what it should be.
func wantSpread(t *testing.T, l []int64, want int64) {
	t.Helper()
	if n := fta.Spread(l...); n != want {
		t.Errorf("Spread(%v): %d; want %d", l, n, want)
	}
}

func TestSpread(t *testing.T) {
	for n := range 6 {
		for _, l := range allOf(n, 2) {
			wantSpread(t, l, spread(l))
		}
	}
	c := chance(83)
	edges := tooGreat(most)
	for range 20000 {
		l := c.numbers(c.below(12), c.width(most))
		wantSpread(t, l, spread(l))
		for range c.below(4) {
			l = append(l, edges[c.below(len(edges))])
		}
		wantSpread(t, l, spread(l))
	}
}
