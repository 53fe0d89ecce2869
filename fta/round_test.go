package fta_test

import (
	"math"
	"slices"
	"testing"

	"metronome/api"
	"metronome/fta"
)

// none are n rows of n numbers, all 0.
func none(n int) [][]int64 {
	l := make([][]int64, n)
	for i := range l {
		l[i] = make([]int64, n)
	}
	return l
}

// rowsOf are n rows of n numbers, all the same.
func rowsOf(n int, v int64) [][]int64 {
	l := none(n)
	for _, row := range l {
		for k := range row {
			row[k] = v
		}
	}
	return l
}

// own are rows in memory of their own.
func own(rows [][]int64) [][]int64 {
	l := slices.Clone(rows)
	for i := range l {
		l[i] = slices.Clone(l[i])
	}
	return l
}

// sameRows tells whether rows are the same.
func sameRows(a, b [][]int64) bool { return slices.EqualFunc(a, b, slices.Equal) }

// round is what Round should be of clocks and rows that may be.
func round(clocks []int64, seen [][]int64) []int64 {
	var out []int64
	for i, own := range clocks {
		var l []int64
		for k, other := range clocks {
			l = append(l, other-own+seen[i][k])
		}
		out = append(out, own+midpoint(l))
	}
	return out
}

// settle is what Settle should be of clocks that may be.
func settle(clocks []int64, rounds int) []int64 {
	out := slices.Clone(clocks)
	for range rounds {
		out = round(out, none(len(out)))
	}
	return out
}

// wantRound holds Round against what it should be.
func wantRound(t *testing.T, clocks []int64, seen [][]int64, want []int64) {
	t.Helper()
	if l, e := fta.Round(clocks, seen); e != api.OK || !slices.Equal(l, want) {
		t.Errorf("Round(%v, %v): %v, %d; want %v", clocks, seen, l, e, want)
	}
}

// wantNoRound asks Round for an error, and nothing beside it.
func wantNoRound(t *testing.T, clocks []int64, seen [][]int64, want api.Errno) {
	t.Helper()
	if l, e := fta.Round(clocks, seen); e != want || l != nil {
		t.Errorf("Round(%v, %v): %v, %d; want error %d", clocks, seen, l, e, want)
	}
}

// wantSettled holds Settle against what it should be.
func wantSettled(t *testing.T, clocks []int64, rounds int, want []int64) {
	t.Helper()
	if l, e := fta.Settle(clocks, rounds); e != api.OK || !slices.Equal(l, want) {
		t.Errorf("Settle(%v, %d): %v, %d; want %v", clocks, rounds, l, e, want)
	}
}

// wantNotSettled asks Settle for an error, and nothing beside it.
func wantNotSettled(t *testing.T, clocks []int64, rounds int, want api.Errno) {
	t.Helper()
	if l, e := fta.Settle(clocks, rounds); e != want || l != nil {
		t.Errorf("Settle(%v, %d): %v, %d; want error %d", clocks, rounds, l, e, want)
	}
}

// P8.2: Round

func TestRoundByHand(t *testing.T) {
	seen := none(4)
	seen[0][3] = 9
	wantRound(t, list(0, 0, 0, 0), seen, list(0, 0, 0, 0))
	wantRound(t, list(0, 10, 20, 100), none(4), list(15, 15, 15, 15))
	wantRound(t, list(-3, -2, -1, 0), none(4), list(-2, -2, -2, -2))
	wantRound(t, list(0, 0, 1, 1), none(4), list(0, 0, 0, 0))
	wantRound(t, list(5, 5, 5, 5, 5), none(5), list(5, 5, 5, 5, 5))
	wantRound(t, list(1, 2, 3, 4, 5, 6, 7, 1000), none(8), list(4, 4, 4, 4, 4, 4, 4, 4))
	// What one sees wrong is its row's alone, and counts with its sign; its own place counts, too.
	wantRound(t, list(0, 0, 0, 0), [][]int64{{0, 8, 8, 0}, {0, 0, 0, 0}, {-8, 0, 0, -8}, {0, 0, 0, 0}}, list(4, 0, -4, 0))
	wantRound(t, list(0, 10, 20, 30), [][]int64{{0, 0, 0, 0}, {10, 0, 0, 0}, {0, 10, 0, 0}, {0, 0, 0, -30}}, list(15, 15, 20, 5))
	wantRound(t, list(0, 0, 0, 0), [][]int64{{6, 6, 0, 0}, {6, 6, 0, 0}, {7, 0, 7, 7}, {-7, 0, 0, -7}}, list(3, 3, 7, -4))
	wantRound(t, list(0, 0, 0, 0), rowsOf(4, 5), list(5, 5, 5, 5))
}

// TestRoundAtTheLimits has clocks and rows at their edges: what is seen of another one is up to three quarters of MaxOff, and what comes of it may be no clock any more.
func TestRoundAtTheLimits(t *testing.T) {
	const q = mostClock
	for n := 4; n <= 8; n++ {
		up, down := slices.Repeat(list(q), n), slices.Repeat(list(-q), n)
		wantRound(t, up, none(n), up)
		wantRound(t, down, none(n), down)
		wantRound(t, up, rowsOf(n, q), slices.Repeat(list(2*q), n))
		wantRound(t, down, rowsOf(n, -q), slices.Repeat(list(-2*q), n))
		wantRound(t, up, rowsOf(n, -q), make([]int64, n))
		wantRound(t, make([]int64, n), rowsOf(n, q), up)
		alone := slices.Clone(up)
		alone[0] = -q
		wantRound(t, alone, none(n), up) // the others are all its own way
		wantRound(t, alone, rowsOf(n, q), slices.Repeat(list(2*q), n))
	}
	wantRound(t, list(-q, q, -q, q), none(4), list(0, 0, 0, 0))
	wantRound(t, list(-q, q, -q, q), rowsOf(4, q), list(q, q, q, q))
	wantRound(t, list(-q, q-1, -q, q), none(4), list(-1, -1, -1, -1))
}

func TestRoundOfChance(t *testing.T) {
	c := chance(84)
	for range 20000 {
		n := 4 + c.below(5)
		clocks, seen := c.numbers(n, c.width(mostClock)), c.rows(n, c.width(mostClock))
		wantRound(t, clocks, seen, round(clocks, seen))
	}
}

func TestRoundOfTooFewOrTooMany(t *testing.T) {
	for n := range 70 {
		want := api.ErrArg
		if n >= 4 && n <= 8 {
			want = api.OK
		}
		if _, e := fta.Round(make([]int64, n), none(n)); e != want {
			t.Errorf("Round of %d clocks: %d; want %d", n, e, want)
		}
		if want != api.OK {
			wantNoRound(t, make([]int64, n), none(n), want)
		}
	}
	wantNoRound(t, nil, nil, api.ErrArg)
	wantNoRound(t, nil, none(4), api.ErrArg)
	wantNoRound(t, []int64{}, [][]int64{}, api.ErrArg)
	wantNoRound(t, list(0, 0, 0), nil, api.ErrArg)
	wantNoRound(t, list(0, 0, 0, 0), nil, api.ErrArg)
	wantNoRound(t, list(0, 0, 0, 0), [][]int64{}, api.ErrArg)
}

func TestRoundOfRowsThatDoNotFit(t *testing.T) {
	for n := 4; n <= 8; n++ {
		clocks := make([]int64, n)
		for rows := range 12 {
			seen := make([][]int64, rows)
			for i := range seen {
				seen[i] = make([]int64, n)
			}
			if rows != n {
				wantNoRound(t, clocks, seen, api.ErrArg)
			}
		}
		for i := range n {
			for size := range 12 {
				seen := none(n)
				seen[i] = make([]int64, size)
				if size != n {
					wantNoRound(t, clocks, seen, api.ErrArg)
				}
			}
			seen := none(n)
			seen[i] = nil
			wantNoRound(t, clocks, seen, api.ErrArg)
			// As many numbers as there should be, in rows too short and too long.
			seen = none(n)
			seen[i] = make([]int64, n-1)
			seen[(i+1)%n] = make([]int64, n+1)
			wantNoRound(t, clocks, seen, api.ErrArg)
		}
		wantNoRound(t, clocks, make([][]int64, n), api.ErrArg)
	}
}

func TestRoundRefusesWhatIsTooGreat(t *testing.T) {
	for n := 4; n <= 8; n++ {
		for i := range n {
			for _, edge := range list(-mostClock, mostClock) {
				clocks := make([]int64, n)
				clocks[i] = edge
				wantRound(t, clocks, none(n), round(clocks, none(n)))
			}
			for _, great := range tooGreat(mostClock) {
				clocks := make([]int64, n)
				clocks[i] = great
				wantNoRound(t, clocks, none(n), api.ErrOff)
			}
			for k := range n {
				seen := none(n)
				for _, edge := range list(-mostClock, mostClock) {
					seen[i][k] = edge
					wantRound(t, make([]int64, n), seen, round(make([]int64, n), seen))
				}
				for _, great := range tooGreat(mostClock) {
					seen[i][k] = great
					wantNoRound(t, make([]int64, n), seen, api.ErrOff)
				}
			}
		}
		// Both are too great, and what they are together is not.
		wantNoRound(t, slices.Repeat(list(mostClock+1), n), rowsOf(n, -mostClock-1), api.ErrOff)
		wantNoRound(t, slices.Repeat(list(mostClock+1), n), none(n), api.ErrOff)
		wantNoRound(t, slices.Repeat(list(math.MinInt64), n), rowsOf(n, math.MaxInt64), api.ErrOff)
	}
}

// P8.2: Settle

func TestSettleByHand(t *testing.T) {
	l := list(0, 10, 20, 100)
	wantSettled(t, l, 0, l)
	for rounds := 1; rounds <= 64; rounds++ {
		wantSettled(t, l, rounds, list(15, 15, 15, 15))
	}
	wantSettled(t, list(-1, -2, -5, 7, -2), 0, list(-1, -2, -5, 7, -2))
	wantSettled(t, list(-1, -2, -5, 7, -2), 1, list(-2, -2, -2, -2, -2))
	wantSettled(t, list(mostClock, -mostClock, mostClock, -mostClock), 64, list(0, 0, 0, 0))
	wantSettled(t, list(mostClock, mostClock, mostClock, -mostClock), 2, list(mostClock, mostClock, mostClock, mostClock))
}

// TestSettleIsRoundSoOften plays the rounds with Round, too.
func TestSettleIsRoundSoOften(t *testing.T) {
	c := chance(85)
	for range 500 {
		n := 4 + c.below(5)
		clocks := c.numbers(n, c.width(mostClock))
		behind := slices.Clone(clocks)
		for rounds := 0; rounds <= 64; rounds++ {
			wantSettled(t, clocks, rounds, behind)
			if rounds < 3 {
				wantSettled(t, clocks, rounds, settle(clocks, rounds))
			}
			behind, _ = fta.Round(behind, none(n))
		}
	}
}

func TestSettleOfRoundsThatMayNotBe(t *testing.T) {
	for _, rounds := range []int{math.MinInt, math.MinInt + 1, math.MinInt32, -65, -64, -2, -1, 65, 66, 128, 256, math.MaxInt32, math.MaxInt - 1, math.MaxInt} {
		wantNotSettled(t, list(0, 10, 20, 100), rounds, api.ErrArg)
		wantNotSettled(t, make([]int64, 8), rounds, api.ErrArg)
		wantNotSettled(t, nil, rounds, api.ErrArg)
		wantNotSettled(t, list(0, 0, 0, mostClock+1), rounds, api.ErrArg)
	}
}

func TestSettleOfClocksThatMayNotBe(t *testing.T) {
	for _, rounds := range []int{0, 1, 2, 63, 64} {
		for n := range 70 {
			if n < 4 || n > 8 {
				wantNotSettled(t, make([]int64, n), rounds, api.ErrArg)
				continue
			}
			wantSettled(t, make([]int64, n), rounds, make([]int64, n))
			for i := range n {
				clocks := make([]int64, n)
				for _, edge := range list(-mostClock, mostClock) {
					clocks[i] = edge
					wantSettled(t, clocks, rounds, settle(clocks, rounds))
				}
				for _, great := range tooGreat(mostClock) {
					clocks[i] = great
					wantNotSettled(t, clocks, rounds, api.ErrOff)
				}
			}
		}
		wantNotSettled(t, nil, rounds, api.ErrArg)
		wantNotSettled(t, []int64{}, rounds, api.ErrArg)
	}
}

// R1: the error that is named first

func TestTheErrorNamedFirst(t *testing.T) {
	const great = mostClock + 1
	off := rowsOf(4, great)
	wantNoRound(t, list(great, great, great), none(3), api.ErrArg)
	wantNoRound(t, slices.Repeat(list(great), 9), rowsOf(9, great), api.ErrArg)
	wantNoRound(t, list(great, 0, 0, 0), nil, api.ErrArg)
	wantNoRound(t, list(great, 0, 0, 0), off[:3], api.ErrArg)
	wantNoRound(t, list(great, 0, 0, 0), append(own(off), make([]int64, 4)), api.ErrArg)
	for i := range 4 {
		for _, row := range [][]int64{nil, {great, great, great}, {great, 0, 0, 0, 0}} {
			seen := own(off)
			seen[i] = row
			wantNoRound(t, list(0, 0, 0, 0), seen, api.ErrArg)
			wantNoRound(t, list(great, math.MinInt64, 0, 0), seen, api.ErrArg)
		}
	}
	wantNoRound(t, list(great, 0, 0, 0), off, api.ErrOff)
	for _, rounds := range []int{-1, 0, 1, 64, 65} {
		wantNotSettled(t, list(great, great, great), rounds, api.ErrArg)
		wantNotSettled(t, slices.Repeat(list(great), 9), rounds, api.ErrArg)
	}
	wantNotSettled(t, list(great, great, great, great), -1, api.ErrArg)
	wantNotSettled(t, list(great, great, great, great), 65, api.ErrArg)
	wantNotSettled(t, list(great, great, great, great), 0, api.ErrOff)
}

// P8.5

func TestTogether(t *testing.T) {
	c := chance(86)
	for range 20000 {
		n := 4 + c.below(5)
		clocks := c.numbers(n, c.width(mostClock))
		l, e := fta.Round(clocks, none(n))
		if e != api.OK || len(l) != n || fta.Spread(l...) > 1 || spread(l) > 1 {
			t.Fatalf("Round(%v) with nothing seen wrong: %v, %d", clocks, l, e)
		}
		wrong := c.width(mostClock)
		seen := c.rows(n, wrong)
		l, e = fta.Round(clocks, seen)
		if e != api.OK || len(l) != n || fta.Spread(l...) > 2*wrong+1 || spread(l) > 2*wrong+1 {
			t.Fatalf("Round(%v, %v), with no number beyond %d: %v, %d", clocks, seen, wrong, l, e)
		}
	}
}

// TestTogetherToTheEdge is as far apart as clocks can be behind a Round: one sees all of them wrong by -e, another one all by e.
func TestTogetherToTheEdge(t *testing.T) {
	for _, e := range list(0, 1, 7, 1000, mostClock) {
		for n := 4; n <= 8; n++ {
			seen := rowsOf(n, -e)
			seen[1] = slices.Repeat(list(e), n)
			want := slices.Repeat(list(-e), n)
			want[1] = e
			wantRound(t, make([]int64, n), seen, want)
			wantSpread(t, want, 2*e)
		}
	}
}
