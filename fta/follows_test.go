package fta_test

import (
	"math"
	"slices"
	"testing"

	"metronome/api"
	"metronome/fta"
)

// middle is Midpoint of numbers that may be.
func middle(t *testing.T, l []int64) int64 {
	t.Helper()
	n, e := fta.Midpoint(l...)
	if e != api.OK {
		t.Fatalf("Midpoint(%v): error %d", l, e)
	}
	return n
}

// raised are numbers, all raised by c.
func raised(l []int64, c int64) []int64 {
	out := slices.Clone(l)
	for i := range out {
		out[i] += c
	}
	return out
}

// shuffled are numbers in another order.
func (c *chance) shuffled(l []int64) []int64 {
	out := slices.Clone(l)
	for i := range out {
		k := i + c.below(len(out)-i)
		out[i], out[k] = out[k], out[i]
	}
	return out
}

// orders are all orders of numbers.
func orders(l []int64) [][]int64 {
	if len(l) < 2 {
		return [][]int64{l}
	}
	var all [][]int64
	for i := range l {
		for _, rest := range orders(without(l, i)) {
			all = append(all, append(list(l[i]), rest...))
		}
	}
	return all
}

// P8.3

func TestMidpointLiesWithin(t *testing.T) {
	c := chance(87)
	for range 20000 {
		l := c.numbers(1+c.below(12), c.width(most))
		least, greatest, e := fta.Kept(l...)
		n := middle(t, l)
		if e != api.OK || n < least || n > greatest {
			t.Fatalf("Midpoint(%v): %d, which is not from %d to %d", l, n, least, greatest)
		}
	}
}

func TestMidpointIsRaisedWithAll(t *testing.T) {
	c := chance(88)
	for range 20000 {
		to := c.width(most / 2)
		l := c.numbers(1+c.below(12), to)
		by := c.upTo(c.width(most - to))
		if n, more := middle(t, l), middle(t, raised(l, by)); more != n+by {
			t.Fatalf("Midpoint(%v): %d; with all raised by %d: %d", l, n, by, more)
		}
	}
}

func TestOneNumberRaisedDoesNotLowerMidpoint(t *testing.T) {
	for n := 1; n <= 5; n++ {
		for _, l := range allOf(n, 2) {
			before := middle(t, l)
			for i := range l {
				more := slices.Clone(l)
				more[i]++
				if after := middle(t, more); after < before {
					t.Fatalf("Midpoint(%v): %d; Midpoint(%v): %d", l, before, more, after)
				}
			}
		}
	}
	c := chance(89)
	for range 20000 {
		l := c.numbers(1+c.below(12), c.width(most))
		more := slices.Clone(l)
		i := c.below(len(l))
		more[i] = min(most, more[i]+c.upTo(c.width(most))+most/int64(1+c.below(5)))
		if more[i] > l[i] && middle(t, more) < middle(t, l) {
			t.Fatalf("Midpoint(%v): %d; Midpoint(%v): %d", l, middle(t, l), more, middle(t, more))
		}
	}
}

func TestTheOrderDoesNotCount(t *testing.T) {
	for _, l := range [][]int64{{4, -1}, {9, 1, 4}, {5, 1, 9, 2}, {1, 1, 2, 3, 9}, {most, -most, -3, 0, 7}, {6, 5, 4, 3, 2, 1}} {
		want := middle(t, l)
		for _, x := range orders(l) {
			wantMidpoint(t, x, want)
		}
	}
	c := chance(90)
	for range 5000 {
		l := c.numbers(1+c.below(12), c.width(most))
		wantMidpoint(t, c.shuffled(l), middle(t, l))
	}
}

// P8.4

// near is whether Midpoints are as near each other as P8.4 says, of lists that differ by no more than e but at a place.
func near(x, y []int64, at int, e int64, a, b int64) bool {
	d := a - b
	if d < 0 {
		d = -d
	}
	return 2*d <= spread(append(without(x, at), without(y, at)...))+e+2
}

func TestOneFault(t *testing.T) {
	c := chance(91)
	for range 20000 {
		n := 4 + c.below(8)
		e := c.width(1 << 20)
		x := c.numbers(n, c.width(most-e))
		y := slices.Clone(x)
		for i := range y {
			y[i] += c.upTo(e)
		}
		at := c.below(n)
		x[at], y[at] = c.upTo(c.width(most)), c.upTo(c.width(most))
		if a, b := middle(t, x), middle(t, y); !near(x, y, at, e, a, b) {
			t.Fatalf("Midpoints of %v and %v: %d and %d, with %d at all places but %d", x, y, a, b, e, at)
		}
	}
}

// TestOneFaultAmongFew has all lists of four, and each number that one fault may tell this one and that one.
func TestOneFaultAmongFew(t *testing.T) {
	for _, x := range allOf(4, 1) {
		for at := range x {
			for _, told := range list(-most, -1, 0, 1, most) {
				y := slices.Clone(x)
				y[at] = told
				if a, b := middle(t, x), middle(t, y); !near(x, y, at, 0, a, b) {
					t.Fatalf("Midpoints of %v and %v: %d and %d", x, y, a, b)
				}
				z := raised(y, 1)
				z[at] = -told
				if a, b := middle(t, y), middle(t, z); !near(y, z, at, 1, a, b) {
					t.Fatalf("Midpoints of %v and %v: %d and %d", y, z, a, b)
				}
			}
		}
	}
}

// TestOneFaultBearsTheGreatest has a fault tell all that may be, to lists that are the same but for it.
func TestOneFaultBearsTheGreatest(t *testing.T) {
	for at := range 4 {
		l := list(10, 10, 10, 10)
		for _, told := range list(-most, 0, 9, 10, 11, most) {
			l[at] = told
			wantMidpoint(t, l, 10)
		}
	}
}

// R3

func TestNothingIsChanged(t *testing.T) {
	c := chance(92)
	for range 3000 {
		// Room behind the numbers shows what is put behind them.
		room := c.numbers(20, mostClock)
		if c.below(4) == 0 {
			room[c.below(20)] = math.MaxInt64
		}
		before := slices.Clone(room)
		l := room[:c.below(13)]
		fta.Kept(l...)
		fta.Midpoint(l...)
		fta.Spread(l...)
		fta.Settle(l, c.below(4))
		seen := c.rows(len(l), mostClock)
		if c.below(4) == 0 && len(l) > 0 {
			seen[c.below(len(l))][c.below(len(l))] = math.MinInt64
		}
		rows := own(seen)
		fta.Round(l, seen)
		if !slices.Equal(room, before) || !sameRows(seen, rows) {
			t.Fatalf("changed: %v, which was %v, or %v, which was %v", room, before, seen, rows)
		}
	}
}

// spoil changes all of a list that was answered, and what is behind it.
func spoil(l []int64) {
	l = l[:cap(l)]
	for i := range l {
		l[i] = -77
	}
}

func TestNothingIsShared(t *testing.T) {
	for rounds := range 4 {
		clocks := list(0, 10, 20, 100)
		one, _ := fta.Settle(clocks, rounds)
		other, _ := fta.Settle(clocks, rounds)
		want := slices.Clone(other)
		spoil(one)
		if !slices.Equal(clocks, list(0, 10, 20, 100)) || !slices.Equal(other, want) {
			t.Fatalf("who changes what Settle answers for %d rounds changes %v or %v", rounds, clocks, other)
		}
		spoil(clocks)
		if !slices.Equal(other, want) {
			t.Fatalf("who changes clocks changes what Settle answered for %d rounds: %v", rounds, other)
		}
	}
	clocks, seen := list(0, 10, 20, 100), rowsOf(4, 3)
	one, _ := fta.Round(clocks, seen)
	other, _ := fta.Round(clocks, seen)
	want := slices.Clone(other)
	spoil(one)
	if !slices.Equal(clocks, list(0, 10, 20, 100)) || !sameRows(seen, rowsOf(4, 3)) || !slices.Equal(other, want) {
		t.Fatalf("who changes what Round answers changes %v, %v or %v", clocks, seen, other)
	}
	spoil(clocks)
	for _, row := range seen {
		spoil(row)
	}
	if !slices.Equal(other, want) {
		t.Fatalf("who changes what was handed in changes what Round answered: %v", other)
	}
}

// Rows may be the same memory, also that of the clocks.
func TestRowsThatAreTheSame(t *testing.T) {
	l := list(1, 2, 3, 8)
	rows := [][]int64{l, l, l, l}
	wantRound(t, l, rows, round(l, own(rows)))
	if !slices.Equal(l, list(1, 2, 3, 8)) {
		t.Errorf("Round changed %v", l)
	}
}

// Bound

func TestBoundOfManyNumbers(t *testing.T) {
	const n = 1 << 19
	rising := make([]int64, n)
	for i := range rising {
		rising[i] = int64(i)
	}
	falling := slices.Clone(rising)
	slices.Reverse(falling)
	waves := make([]int64, n)
	for i := range waves {
		waves[i] = int64(i*7919) % n
	}
	for _, l := range [][]int64{rising, falling, waves} {
		if a, b, e := fta.Kept(l...); a != 1 || b != n-2 || e != api.OK {
			t.Errorf("Kept of many: %d, %d, %d", a, b, e)
		}
		if v, e := fta.Midpoint(l...); v != n/2-1 || e != api.OK {
			t.Errorf("Midpoint of many: %d, %d", v, e)
		}
		if v := fta.Spread(l...); v != n-1 {
			t.Errorf("Spread of many: %d", v)
		}
	}
	same := slices.Repeat(list(-7), n)
	if a, b, e := fta.Kept(same...); a != -7 || b != -7 || e != api.OK {
		t.Errorf("Kept of many that are the same: %d, %d, %d", a, b, e)
	}
	if v, e := fta.Midpoint(same...); v != -7 || e != api.OK {
		t.Errorf("Midpoint of many that are the same: %d, %d", v, e)
	}
	if v := fta.Spread(same...); v != 0 {
		t.Errorf("Spread of many that are the same: %d", v)
	}
}

// TestBoundOfManyClocks hands on more than a cluster has: rows for all of them would be more than there is memory for.
func TestBoundOfManyClocks(t *testing.T) {
	many := make([]int64, 1<<20)
	row := make([]int64, 8)
	rows := slices.Repeat([][]int64{row}, 1<<20)
	for _, e := range []api.Errno{errOf(fta.Settle(many, 64)), errOf(fta.Settle(many, 0)), errOf(fta.Round(many, rows)), errOf(fta.Round(row, rows)), errOf(fta.Round(many, nil)), errOf(fta.Round(row, [][]int64{row, row, row, row, row, row, row, many}))} {
		if e != api.ErrArg {
			t.Errorf("of many: %d; want ErrArg", e)
		}
	}
}

func errOf(_ []int64, e api.Errno) api.Errno { return e }

// P1, R2, R4

func TestNothingPanics(t *testing.T) {
	edges := append(append(tooGreat(most), tooGreat(mostClock)...), 0, 1, -1, 5, most, -most, mostClock, -mostClock)
	counts := []int{math.MinInt, -1, 0, 1, 2, 63, 64, 65, math.MaxInt}
	c := chance(93)
	pick := func(n int) []int64 {
		l := c.numbers(n, mostClock)
		for range c.below(3) {
			if n > 0 {
				l[c.below(n)] = edges[c.below(len(edges))]
			}
		}
		return l
	}
	for range 50000 {
		l := pick(c.below(10))
		seen := make([][]int64, max(0, len(l)+c.below(8)/7))
		for i := range seen {
			seen[i] = pick(max(0, len(l)+c.below(40)/39))
		}
		least, greatest, e := fta.Kept(l...)
		if e != api.OK && (least != 0 || greatest != 0) || least > greatest {
			t.Fatalf("Kept(%v): %d, %d, %d", l, least, greatest, e)
		}
		if n, again := fta.Midpoint(l...); again != e || e != api.OK && n != 0 {
			t.Fatalf("Midpoint(%v): %d, %d", l, n, again)
		}
		wantSpread(t, l, spread(l))
		rounds := counts[c.below(len(counts))]
		behind, e := fta.Settle(l, rounds)
		wantAnswer(t, l, behind, e)
		twice, again := fta.Settle(l, rounds)
		if again != e || !slices.Equal(twice, behind) {
			t.Fatalf("Settle(%v, %d), twice: %v, %d; %v, %d", l, rounds, behind, e, twice, again)
		}
		behind, e = fta.Round(l, seen)
		wantAnswer(t, l, behind, e)
	}
}

// wantAnswer asks for as many clocks as there were, or none beside an error.
func wantAnswer(t *testing.T, clocks, behind []int64, e api.Errno) {
	t.Helper()
	if e != api.OK && behind != nil || e == api.OK && len(behind) != len(clocks) {
		t.Fatalf("of %v: %v, %d", clocks, behind, e)
	}
}
