package medl_test

import (
	"math"
	"slices"
	"testing"

	"metronome/api"
	"metronome/medl"
)

// The limits, as the document writes them.
const (
	mostGap  = 1_048_576  // MaxGap: 2^20
	mostSlot = 16_777_216 // MaxSlot: 2^24
	coldAir  = 34         // of an FrCold's 40 bits: 14 samples, and 20
)

// airs is how long a frame lasts, as the chapters 3 and 5 reckon it: 14 samples, and one for each two bits of it.
func airs(explicit bool, data int) int {
	bits := 29 + 8*data
	if explicit && data == 0 {
		bits = 54
	} else if explicit {
		bits = 79 + 8*data
	}
	return 14 + (bits+1)/2
}

// truths are n, of which those at some places hold.
func truths(n int, places ...int) []bool {
	l := make([]bool, n)
	for _, at := range places {
		l[at] = true
	}
	return l
}

// all are n truths that hold.
func all(n int) []bool { return slices.Repeat([]bool{true}, n) }

// own is a list in memory of its own.
func own(m api.Medl) api.Medl {
	m.Cold = slices.Clone(m.Cold)
	m.Modes = slices.Clone(m.Modes)
	for i, o := range m.Modes {
		m.Modes[i] = api.Mode{Data: slices.Clone(o.Data), Explicit: slices.Clone(o.Explicit), Next: slices.Clone(o.Next)}
	}
	return m
}

// same is Same, written out: nil and empty lists are the same.
func same(a, b api.Medl) bool {
	if a.Nodes != b.Nodes || a.Slot != b.Slot || a.Gap != b.Gap || a.Window != b.Window || a.Drift != b.Drift || a.Delay != b.Delay {
		return false
	}
	if !slices.Equal(a.Cold, b.Cold) || len(a.Modes) != len(b.Modes) {
		return false
	}
	for i, o := range a.Modes {
		x := b.Modes[i]
		if !slices.Equal(o.Data, x.Data) || !slices.Equal(o.Explicit, x.Explicit) || !slices.Equal(o.Next, x.Next) {
			return false
		}
	}
	return true
}

// isNothing tells whether a list is the zero one.
func isNothing(m api.Medl) bool { return same(m, api.Medl{}) }

// longest is how long the longest frame of a list that may be lasts.
func longest(m api.Medl) int {
	n := coldAir
	for _, o := range m.Modes {
		for i, data := range o.Data {
			n = max(n, airs(o.Explicit[i], data))
		}
	}
	return n
}

// tight is a list whose Window, Gap and Slot are as small as they may be.
func tight(m api.Medl) api.Medl {
	m.Window = 16*m.Nodes*m.Drift + 16
	m.Gap = 2*m.Window + 2*m.Delay + 4
	m.Slot = 2*m.Gap + longest(m)
	return m
}

// wide is a list whose Window, Gap and Slot are as great as they may be.
func wide(m api.Medl) api.Medl {
	m.Window = (mostGap-4)/2 - m.Delay
	m.Gap = mostGap
	m.Slot = mostSlot
	return m
}

// base is a list with all kinds of frames in each of its modes, whose nodes 0 and 2 may begin a cluster; its Window, Gap and Slot are tight.
func base(nodes, modes, drift, delay int) api.Medl {
	m := api.Medl{Nodes: nodes, Drift: drift, Delay: delay, Cold: truths(nodes, 0, 2)}
	for k := range modes {
		o := api.Mode{Explicit: truths(nodes, 0, 2), Next: truths(modes)}
		for i := range nodes {
			o.Data = append(o.Data, (i+3*k)%9)
		}
		o.Next[(k+1)%modes] = true
		m.Modes = append(m.Modes, o)
	}
	return tight(m)
}

// lists are many that may be.
func lists() []api.Medl {
	var l []api.Medl
	for nodes := 4; nodes <= 8; nodes++ {
		for modes := 1; modes <= 4; modes++ {
			for _, drift := range []int{0, 1, 63, 64} {
				for _, delay := range []int{0, 1, 64} {
					m := base(nodes, modes, drift, delay)
					l = append(l, m, wide(own(m)))
				}
			}
		}
	}
	return append(l, edges()...)
}

// edges are lists that may be, each at an end of what may be.
func edges() []api.Medl {
	quiet := base(4, 1, 0, 0)
	quiet.Modes[0] = api.Mode{Data: make([]int, 4), Explicit: all(4), Next: truths(1)}
	silent := base(5, 1, 3, 2)
	silent.Modes[0].Data = make([]int, 5)
	loud := base(8, 4, 64, 64)
	loud.Cold = all(8)
	for k := range loud.Modes {
		loud.Modes[k] = api.Mode{Data: slices.Repeat([]int{8}, 8), Explicit: all(8), Next: all(4)}
	}
	last := base(8, 2, 1, 1)
	last.Cold = truths(8, 6, 7)
	last.Modes[0].Explicit = truths(8, 6, 7)
	last.Modes[1].Explicit = all(8)
	l := []api.Medl{tight(quiet), tight(silent), tight(loud), tight(last)}
	for i := range l {
		l = append(l, wide(own(l[i])))
	}
	return l
}

// extremes are numbers that no limit takes.
func extremes() []int {
	return []int{
		math.MinInt, math.MinInt + 1, -1 << 62, -1 << 61, -1 << 32, math.MinInt32, -mostSlot, -2, -1,
		mostSlot + 1, math.MaxInt32, 1 << 32, 1 << 58, 1 << 59, 1 << 60, 1 << 61, 1 << 62, 1<<62 + 1, math.MaxInt - 1, math.MaxInt,
	}
}

// change is one thing done to a list.
type change struct {
	what string
	do   func(*api.Medl)
}

// spoilers are changes of which each makes of a list that may be, with more than one node and mode and a tight Window, Gap and Slot, one that may not be.
func spoilers() []change {
	l := []change{
		{"Cold nil", func(m *api.Medl) { m.Cold = nil }},
		{"Cold with a truth too few", func(m *api.Medl) { m.Cold = m.Cold[:len(m.Cold)-1] }},
		{"Cold with a truth too many", func(m *api.Medl) { m.Cold = append(m.Cold, false) }},
		{"Cold with a truth too many that holds", func(m *api.Medl) { m.Cold = append(m.Cold, true) }},
		{"Cold of nobody", func(m *api.Medl) { m.Cold = truths(m.Nodes) }},
		{"Cold of the first one alone", func(m *api.Medl) { m.Cold = truths(m.Nodes, 0) }},
		{"Cold of another one alone", func(m *api.Medl) { m.Cold = truths(m.Nodes, 2) }},
		{"Modes nil", func(m *api.Medl) { m.Modes = nil }},
		{"Modes empty", func(m *api.Medl) { m.Modes = []api.Mode{} }},
		{"a mode less", func(m *api.Medl) { m.Modes = m.Modes[:len(m.Modes)-1] }},
		{"a mode more", func(m *api.Medl) { m.Modes = append(m.Modes, m.Modes[0]) }},
		{"a mode more than MaxModes", fiveModes},
		{"an empty mode", func(m *api.Medl) { m.Modes[len(m.Modes)-1] = api.Mode{} }},
		{"Window one less", func(m *api.Medl) { m.Window-- }},
		{"Gap one less", func(m *api.Medl) { m.Gap-- }},
		{"Slot one less", func(m *api.Medl) { m.Slot-- }},
		{"Window one more", func(m *api.Medl) { m.Window++ }},
		{"Delay one more", func(m *api.Medl) { m.Delay++ }},
		{"Gap one more", func(m *api.Medl) { m.Gap++ }},
		{"Drift one more", func(m *api.Medl) { m.Drift++ }},
		{"Window MaxGap", func(m *api.Medl) { m.Window = mostGap }},
		{"Window beyond MaxGap", func(m *api.Medl) { m.Window = mostGap + 1 }},
		{"Window beyond MaxGap, with a Gap for it", func(m *api.Medl) { m.Window = mostGap + 1; m.Gap = 3 * mostGap; m.Slot = mostSlot }},
		{"Gap beyond MaxGap, with a Slot for it", func(m *api.Medl) { m.Gap = mostGap + 1; m.Slot = mostSlot }},
		{"Slot beyond MaxSlot", func(m *api.Medl) { m.Slot = mostSlot + 1 }},
		{"Drift beyond MaxDrift, with room for it", func(m *api.Medl) { m.Drift = 65; m.Window = 400_000; m.Gap = mostGap; m.Slot = mostSlot }},
		{"Delay beyond MaxDelay, with room for it", func(m *api.Medl) { m.Delay = 65; m.Gap = mostGap; m.Slot = mostSlot }},
		{"Drift below 0", func(m *api.Medl) { m.Drift = -1 }},
		{"Delay below 0", func(m *api.Medl) { m.Delay = -1 }},
		{"all wrong", func(m *api.Medl) { *m = api.Medl{Nodes: -1, Slot: -1, Gap: -1, Window: -1, Drift: -1, Delay: -1} }},
		{"nothing", func(m *api.Medl) { *m = api.Medl{} }},
	}
	l = append(l, nodeSpoilers()...)
	l = append(l, modeSpoilers()...)
	return append(l, numberSpoilers()...)
}

// fiveModes makes modes that agree with each other, but are too many.
func fiveModes(m *api.Medl) {
	o := m.Modes[0]
	o.Next = all(5)
	m.Modes = []api.Mode{o, o, o, o, o}
}

// nodeSpoilers are counts of nodes that there are not, with lists that are as long.
func nodeSpoilers() []change {
	var l []change
	for _, n := range []int{-1, 0, 1, 2, 3, 9, 10, 255, 256} {
		l = append(l, change{"Nodes " + name(n), func(m *api.Medl) {
			long := max(n, 0)
			m.Nodes = n
			m.Cold = all(long)
			for k := range m.Modes {
				m.Modes[k].Data = make([]int, long)
				m.Modes[k].Explicit = all(long)
			}
			m.Window, m.Gap, m.Slot = 400_000, mostGap, mostSlot
		}})
	}
	return append(l,
		change{"a node more", func(m *api.Medl) { m.Nodes++ }},
		change{"a node less", func(m *api.Medl) { m.Nodes-- }},
	)
}

// modeSpoilers are changes of one mode, of the first and of the last one.
func modeSpoilers() []change {
	edits := []struct {
		what string
		do   func(o *api.Mode)
	}{
		{"Data nil", func(o *api.Mode) { o.Data = nil }},
		{"Data with a number too few", func(o *api.Mode) { o.Data = o.Data[:len(o.Data)-1] }},
		{"Data with a number too many", func(o *api.Mode) { o.Data = append(o.Data, 0) }},
		{"Explicit nil", func(o *api.Mode) { o.Explicit = nil }},
		{"Explicit with a truth too few", func(o *api.Mode) { o.Explicit = o.Explicit[:len(o.Explicit)-1] }},
		{"Explicit with a truth too many", func(o *api.Mode) { o.Explicit = append(o.Explicit, true) }},
		{"Explicit not of the first one that may begin", func(o *api.Mode) { o.Explicit[0] = false }},
		{"Explicit not of the last one that may begin", func(o *api.Mode) { o.Explicit[2] = false }},
		{"Explicit of nobody", func(o *api.Mode) { o.Explicit = make([]bool, len(o.Explicit)) }},
		{"Next nil", func(o *api.Mode) { o.Next = nil }},
		{"Next with a truth too few", func(o *api.Mode) { o.Next = o.Next[:len(o.Next)-1] }},
		{"Next with a truth too many", func(o *api.Mode) { o.Next = append(o.Next, false) }},
	}
	var l []change
	for _, x := range edits {
		l = append(l,
			change{"in the first mode " + x.what, func(m *api.Medl) { x.do(&m.Modes[0]) }},
			change{"in the last mode " + x.what, func(m *api.Medl) { x.do(&m.Modes[len(m.Modes)-1]) }},
		)
	}
	for _, n := range append(extremes(), 9, 10, 255, 256) {
		l = append(l,
			change{"first Data " + name(n), func(m *api.Medl) { m.Modes[0].Data[0] = n; m.Slot = mostSlot }},
			change{"last Data " + name(n), func(m *api.Medl) { m.Modes[len(m.Modes)-1].Data[m.Nodes-1] = n; m.Slot = mostSlot }},
		)
	}
	return l
}

// numberSpoilers set one number, in a tight list and in a wide one, to what no limit takes.
func numberSpoilers() []change {
	fields := numbers()
	var l []change
	for _, f := range fields {
		for _, n := range extremes() {
			l = append(l,
				change{f.what + " " + name(n), func(m *api.Medl) { *f.of(m) = n }},
				change{f.what + " " + name(n) + " in a wide list", func(m *api.Medl) { *m = wide(*m); *f.of(m) = n }},
				// What is reckoned from one that is too great may wrap round to what all others keep to.
				change{f.what + " " + name(n) + " in a list with all others least", func(m *api.Medl) {
					m.Drift, m.Delay, m.Window, m.Gap, m.Slot = 0, 0, 16, 36, 72+longest(*m)
					*f.of(m) = n
				}},
			)
		}
	}
	return l
}

// number is one of a list's.
type number struct {
	what string
	of   func(*api.Medl) *int
}

func numbers() []number {
	return []number{
		{"Nodes", func(m *api.Medl) *int { return &m.Nodes }},
		{"Slot", func(m *api.Medl) *int { return &m.Slot }},
		{"Gap", func(m *api.Medl) *int { return &m.Gap }},
		{"Window", func(m *api.Medl) *int { return &m.Window }},
		{"Drift", func(m *api.Medl) *int { return &m.Drift }},
		{"Delay", func(m *api.Medl) *int { return &m.Delay }},
	}
}

// name writes a number.
func name(n int) string {
	if n == math.MinInt {
		return "the least"
	}
	if n < 0 {
		return "-" + name(-n)
	}
	if n < 10 {
		return string(rune('0' + n))
	}
	return name(n/10) + name(n%10)
}

// noList is one that may not be, and why.
type noList struct {
	what string
	m    api.Medl
}

// noLists are lists that may not be, most of them by one thing.
func noLists() []noList {
	var l []noList
	for _, m := range []api.Medl{base(4, 2, 0, 0), base(6, 4, 2, 3), base(8, 3, 64, 64)} {
		for _, c := range spoilers() {
			x := own(m)
			c.do(&x)
			l = append(l, noList{c.what, x})
		}
	}
	return l
}

// noPlaces are numbers of modes or nodes that there are not, where there are n.
func noPlaces(n int) []int {
	return []int{math.MinInt, math.MinInt + 1, math.MinInt32, -n, -2, -1, n, n + 1, 2 * n, math.MaxInt32, math.MaxInt - 1, math.MaxInt}
}

// chance is a row of numbers by a fixed rule, another one for another start.
type chance uint64

func (c *chance) below(n int) int {
	*c = *c*6364136223846793005 + 1442695040888963407
	return int(uint64(*c>>33) % uint64(n))
}

func (c *chance) truths(n int) []bool {
	l := make([]bool, n)
	for i := range l {
		l[i] = c.below(2) == 0
	}
	return l
}

// list is one that may be.
func (c *chance) list() api.Medl {
	nodes, modes := 4+c.below(5), 1+c.below(4)
	m := api.Medl{Nodes: nodes, Drift: c.below(65), Delay: c.below(65), Cold: c.truths(nodes)}
	at := c.below(nodes)
	m.Cold[at], m.Cold[(at+1)%nodes] = true, true
	for range modes {
		o := api.Mode{Explicit: c.truths(nodes), Next: c.truths(modes)}
		for i := range nodes {
			o.Data = append(o.Data, c.below(9))
			o.Explicit[i] = o.Explicit[i] || m.Cold[i]
		}
		m.Modes = append(m.Modes, o)
	}
	m = tight(m)
	m.Window += c.below(1000)
	m.Gap = 2*m.Window + 2*m.Delay + 4 + c.below(1000)
	m.Slot = 2*m.Gap + longest(m) + c.below(1_000_000)
	return m
}

// P7.1

func TestCheck(t *testing.T) {
	for _, m := range lists() {
		if e := medl.Check(m); e != api.OK {
			t.Errorf("Check(%v): %d", m, e)
		}
	}
	c := chance(7)
	for range 2000 {
		if m := c.list(); medl.Check(m) != api.OK {
			t.Errorf("Check(%v): %d", m, medl.Check(m))
		}
	}
}

func TestCheckRefuses(t *testing.T) {
	for _, x := range noLists() {
		if e := medl.Check(x.m); e != api.ErrMedl {
			t.Errorf("%s: Check(%v): %d; want ErrMedl", x.what, x.m, e)
		}
	}
}

// at is a list with one number changed.
func at(m api.Medl, f func(*api.Medl) *int, n int) api.Medl {
	m = own(m)
	*f(&m) = n
	return m
}

func wantCheck(t *testing.T, what string, m api.Medl, want api.Errno) {
	t.Helper()
	if e := medl.Check(m); e != want {
		t.Errorf("%s: Check(%v): %d; want %d", what, m, e, want)
	}
}

// TestCheckByTheEdge takes each number to just what it may be, and one beyond, with all others as they may be.
func TestCheckByTheEdge(t *testing.T) {
	for _, m := range lists() {
		l := numbers()
		slot, gap, window, drift, delay := l[1].of, l[2].of, l[3].of, l[4].of, l[5].of
		least := 2*m.Gap + longest(m)
		wantCheck(t, "Slot least", at(m, slot, least), api.OK)
		wantCheck(t, "Slot one less", at(m, slot, least-1), api.ErrMedl)
		wantCheck(t, "Slot greatest", at(m, slot, mostSlot), api.OK)
		wantCheck(t, "Slot one more", at(m, slot, mostSlot+1), api.ErrMedl)

		m.Slot = mostSlot
		least = 2*m.Window + 2*m.Delay + 4
		wantCheck(t, "Gap least", at(m, gap, least), api.OK)
		wantCheck(t, "Gap one less", at(m, gap, least-1), api.ErrMedl)
		wantCheck(t, "Gap greatest", at(m, gap, mostGap), api.OK)
		wantCheck(t, "Gap one more", at(m, gap, mostGap+1), api.ErrMedl)

		m.Gap = mostGap
		least = 16*m.Nodes*m.Drift + 16
		wantCheck(t, "Window least", at(m, window, least), api.OK)
		wantCheck(t, "Window one less", at(m, window, least-1), api.ErrMedl)
		greatest := (mostGap-4)/2 - m.Delay
		wantCheck(t, "Window greatest", at(m, window, greatest), api.OK)
		wantCheck(t, "Window one more", at(m, window, greatest+1), api.ErrMedl)

		m.Window = 400_000
		wantCheck(t, "Drift 0", at(m, drift, 0), api.OK)
		wantCheck(t, "Drift 64", at(m, drift, 64), api.OK)
		wantCheck(t, "Drift 65", at(m, drift, 65), api.ErrMedl)
		wantCheck(t, "Drift -1", at(m, drift, -1), api.ErrMedl)
		wantCheck(t, "Delay 0", at(m, delay, 0), api.OK)
		wantCheck(t, "Delay 64", at(m, delay, 64), api.OK)
		wantCheck(t, "Delay 65", at(m, delay, 65), api.ErrMedl)
		wantCheck(t, "Delay -1", at(m, delay, -1), api.ErrMedl)
	}
}

// TestCheckCold goes through all sets of who may begin a cluster.
func TestCheckCold(t *testing.T) {
	for nodes := 4; nodes <= 8; nodes++ {
		m := base(nodes, 2, 1, 1)
		for k := range m.Modes {
			m.Modes[k].Explicit = all(nodes)
		}
		m = tight(m)
		for set := range 1 << nodes {
			n := 0
			for i := range nodes {
				m.Cold[i] = set>>i&1 == 1
				n += set >> i & 1
			}
			want := api.OK
			if n < 2 {
				want = api.ErrMedl
			}
			wantCheck(t, "Cold", m, want)
		}
	}
}

// TestCheckExplicit holds all sets of whose state stands in the frame against who may begin a cluster.
func TestCheckExplicit(t *testing.T) {
	for _, cold := range [][]int{{0, 1}, {1, 3}, {2, 3}, {0, 1, 3}, {0, 1, 2, 3}} {
		for which := range 2 {
			m := wide(base(4, 2, 1, 1))
			m.Cold = truths(4, cold...)
			m.Modes[0].Explicit, m.Modes[1].Explicit = all(4), all(4)
			for set := range 16 {
				want := api.OK
				for i := range 4 {
					m.Modes[which].Explicit[i] = set>>i&1 == 1
					if m.Cold[i] && set>>i&1 == 0 {
						want = api.ErrMedl
					}
				}
				wantCheck(t, "Explicit", m, want)
			}
		}
	}
}

func TestCheckData(t *testing.T) {
	for k := range 3 {
		for i := range 5 {
			m := wide(base(5, 3, 1, 1))
			for n := -3; n <= 12; n++ {
				m.Modes[k].Data[i] = n
				want := api.OK
				if n < 0 || n > 8 {
					want = api.ErrMedl
				}
				wantCheck(t, "Data", m, want)
			}
		}
	}
}

// TestCheckModes puts from no mode to six into a list, all of which agree with each other.
func TestCheckModes(t *testing.T) {
	for n := range 7 {
		m := wide(base(4, 1, 0, 1))
		o := m.Modes[0]
		o.Next = truths(n)
		m.Modes = slices.Repeat([]api.Mode{o}, n)
		want := api.OK
		if n < 1 || n > 4 {
			want = api.ErrMedl
		}
		wantCheck(t, "Modes", m, want)
	}
}

// answer is what a call answers of a list, a mode and a node: its number, or how many bytes.
type answer struct {
	what       string
	mode, node bool // whether it asks for one
	of         func(m api.Medl, mode, node int) (int, api.Errno)
}

func answers() []answer {
	return []answer{
		{"Kind", true, true, medl.Kind},
		{"Air", true, true, medl.Air},
		{"Precision", false, false, func(m api.Medl, _, _ int) (int, api.Errno) { return medl.Precision(m) }},
		{"Listen", false, true, func(m api.Medl, _, node int) (int, api.Errno) { return medl.Listen(m, node) }},
		{"Retry", false, true, func(m api.Medl, _, node int) (int, api.Errno) { return medl.Retry(m, node) }},
		{"Bound", false, false, func(m api.Medl, _, _ int) (int, api.Errno) { return medl.Bound(m) }},
		{"Bytes", false, false, func(m api.Medl, _, _ int) (int, api.Errno) { b, e := medl.Bytes(m); return len(b), e }},
	}
}

func TestAllOthersRefuseTheList(t *testing.T) {
	places := []int{0, 1, 3, -1, 8, math.MinInt, math.MaxInt}
	for _, x := range noLists() {
		for _, a := range answers() {
			for _, mode := range places {
				for _, node := range places {
					if n, e := a.of(x.m, mode, node); e != api.ErrMedl || n != 0 {
						t.Fatalf("%s: %s(%v, %d, %d): %d, %d; want ErrMedl", x.what, a.what, x.m, mode, node, n, e)
					}
				}
			}
		}
		if b, _ := medl.Bytes(x.m); b != nil {
			t.Errorf("%s: Bytes: %v", x.what, b)
		}
	}
}

func TestAllOthersRefuseThePlace(t *testing.T) {
	for _, m := range []api.Medl{base(4, 1, 0, 0), base(5, 3, 1, 1), base(8, 4, 64, 64)} {
		for _, a := range answers() {
			want := func(mode, node int, want api.Errno) {
				t.Helper()
				n, e := a.of(m, mode, node)
				if e != want || (e == api.OK) != (n != 0) {
					t.Errorf("%s(%v, %d, %d): %d, %d; want %d", a.what, m, mode, node, n, e, want)
				}
			}
			refused := map[bool]api.Errno{true: api.ErrArg, false: api.OK}
			for mode := range m.Modes {
				for node := range m.Nodes {
					want(mode, node, api.OK)
				}
			}
			for _, mode := range noPlaces(len(m.Modes)) {
				want(mode, 0, refused[a.mode])
				want(mode, m.Nodes-1, refused[a.mode])
			}
			for _, node := range noPlaces(m.Nodes) {
				want(0, node, refused[a.node])
				want(len(m.Modes)-1, node, refused[a.node])
				for _, mode := range noPlaces(len(m.Modes)) {
					want(mode, node, refused[a.mode || a.node])
				}
			}
		}
	}
}

// P7.2

func TestKindAndAir(t *testing.T) {
	m := base(4, 1, 0, 0)
	for data := range 9 {
		for set := range 4 {
			explicit := []bool{true, set&1 == 1, true, set&2 == 2}
			m.Modes[0] = api.Mode{Data: slices.Repeat([]int{data}, 4), Explicit: explicit, Next: truths(1)}
			m = tight(m)
			for node := range 4 {
				kind := api.FrN
				if explicit[node] && data == 0 {
					kind = api.FrI
				} else if explicit[node] {
					kind = api.FrX
				}
				if k, e := medl.Kind(m, 0, node); e != api.OK || k != kind {
					t.Errorf("Kind of Data %d, Explicit %v: %d, %d; want %d", data, explicit[node], k, e, kind)
				}
				if n, e := medl.Air(m, 0, node); e != api.OK || n != airs(explicit[node], data) {
					t.Errorf("Air of Data %d, Explicit %v: %d, %d; want %d", data, explicit[node], n, e, airs(explicit[node], data))
				}
			}
		}
	}
}

func TestKindAndAirByHand(t *testing.T) {
	m := base(4, 2, 0, 0)
	m.Modes[0] = api.Mode{Data: []int{0, 0, 1, 8}, Explicit: truths(4, 0, 2), Next: all(2)}
	m.Modes[1] = api.Mode{Data: []int{8, 1, 0, 0}, Explicit: truths(4, 0, 2, 3), Next: all(2)}
	m = tight(m)
	kinds := [][]int{{api.FrI, api.FrN, api.FrX, api.FrN}, {api.FrX, api.FrN, api.FrI, api.FrI}}
	long := [][]int{{41, 29, 58, 61}, {86, 33, 41, 41}}
	for mode := range 2 {
		for node := range 4 {
			if k, e := medl.Kind(m, mode, node); e != api.OK || k != kinds[mode][node] {
				t.Errorf("Kind(%d, %d): %d, %d; want %d", mode, node, k, e, kinds[mode][node])
			}
			if n, e := medl.Air(m, mode, node); e != api.OK || n != long[mode][node] {
				t.Errorf("Air(%d, %d): %d, %d; want %d", mode, node, n, e, long[mode][node])
			}
		}
	}
	if n := medl.MaxAir(m); n != 86 {
		t.Errorf("MaxAir: %d; want 86", n)
	}
}

func TestMaxAir(t *testing.T) {
	l := lists()
	c := chance(2)
	for range 1000 {
		l = append(l, c.list())
	}
	for _, m := range l {
		want := coldAir
		for mode := range m.Modes {
			for node := range m.Nodes {
				n, _ := medl.Air(m, mode, node)
				want = max(want, n)
			}
		}
		if n := medl.MaxAir(m); n != want || n != longest(m) {
			t.Errorf("MaxAir(%v): %d; want %d", m, n, want)
		}
	}
}

// TestMaxAirOfEach has one frame alone that is longer than all others, in each mode and at each node.
func TestMaxAirOfEach(t *testing.T) {
	for mode := range 4 {
		for node := range 8 {
			m := base(8, 4, 0, 0)
			for k := range m.Modes {
				m.Modes[k] = api.Mode{Data: make([]int, 8), Explicit: truths(8), Next: all(4)}
			}
			if n := medl.MaxAir(m); n != coldAir {
				t.Errorf("MaxAir of FrN without data: %d; want %d", n, coldAir)
			}
			m.Modes[mode].Explicit[node] = true
			if n := medl.MaxAir(m); n != 41 {
				t.Errorf("MaxAir of an FrI: %d; want 41", n)
			}
			m.Modes[mode].Data[node] = 8
			if n := medl.MaxAir(m); n != 86 {
				t.Errorf("MaxAir of an FrX: %d; want 86", n)
			}
			m.Modes[mode].Explicit[node] = false
			if n := medl.MaxAir(m); n != 61 {
				t.Errorf("MaxAir of an FrN: %d; want 61", n)
			}
		}
	}
}

func TestMaxAirOfListsThatMayNotBe(t *testing.T) {
	mode := func(data []int, explicit []bool) api.Mode { return api.Mode{Data: data, Explicit: explicit} }
	for _, x := range []struct {
		what string
		m    api.Medl
		want int
	}{
		{"nothing", api.Medl{}, coldAir},
		{"empty lists", api.Medl{Cold: []bool{}, Modes: []api.Mode{}}, coldAir},
		{"nodes without modes", api.Medl{Nodes: 4}, coldAir},
		{"an empty mode", api.Medl{Nodes: 4, Modes: []api.Mode{{}}}, coldAir},
		{"many empty modes", api.Medl{Nodes: 4, Modes: make([]api.Mode, 9)}, coldAir},
		{"a node and a mode alone", api.Medl{Nodes: 1, Modes: []api.Mode{mode([]int{2}, all(1))}}, 62},
		{"numbers of no node", api.Medl{Modes: []api.Mode{mode([]int{8, 8}, all(2))}}, coldAir},
		{"fewer than no node", api.Medl{Nodes: -1, Modes: []api.Mode{mode([]int{8, 8}, all(2))}}, coldAir},
		{"the fewest nodes", api.Medl{Nodes: math.MinInt, Modes: []api.Mode{mode([]int{8, 8}, all(2))}}, coldAir},
		{"more numbers than nodes", api.Medl{Nodes: 4, Modes: []api.Mode{mode([]int{1, 1, 1, 1, 8}, all(5))}}, 58},
		{"fewer numbers than nodes", api.Medl{Nodes: 4, Modes: []api.Mode{mode([]int{1, 3}, all(4))}}, 66},
		{"fewer truths than nodes", api.Medl{Nodes: 4, Modes: []api.Mode{mode([]int{1, 0, 8, 8}, all(2))}}, 58},
		{"no number", api.Medl{Nodes: 4, Modes: []api.Mode{mode(nil, all(4))}}, coldAir},
		{"no truth", api.Medl{Nodes: 4, Modes: []api.Mode{mode([]int{8, 8, 8, 8}, nil)}}, coldAir},
		{"the most nodes", api.Medl{Nodes: math.MaxInt, Modes: []api.Mode{mode([]int{1, 3}, all(2))}}, 66},
		{"nine nodes", api.Medl{Nodes: 9, Modes: []api.Mode{mode([]int{0, 0, 0, 0, 0, 0, 0, 0, 8}, all(9))}}, 86},
		{"the last one of five modes", api.Medl{Nodes: 1, Modes: []api.Mode{{}, {}, {}, {}, mode([]int{8}, all(1))}}, 86},
		{"data out of their bounds", api.Medl{Nodes: 4, Modes: []api.Mode{mode([]int{-1, 9, math.MinInt, math.MaxInt}, all(4))}}, coldAir},
		{"data out of their bounds, not explicit", api.Medl{Nodes: 4, Modes: []api.Mode{mode([]int{-1, 9, 1 << 61, 10}, truths(4))}}, coldAir},
		{"data out of their bounds beside others", api.Medl{Nodes: 4, Modes: []api.Mode{mode([]int{9, 2, -1, 0}, all(4)), mode([]int{9, 9, 9, 4}, truths(4, 0))}}, 62},
		{"all else out of its bounds", api.Medl{Nodes: 2, Slot: -1, Gap: -1, Window: math.MaxInt, Drift: 99, Delay: -9, Modes: []api.Mode{mode([]int{5, 0}, truths(2))}}, 49},
	} {
		if n := medl.MaxAir(x.m); n != x.want {
			t.Errorf("MaxAir of %s: %d; want %d", x.what, n, x.want)
		}
	}
}

// P7.3

func wantNumber(t *testing.T, what string, got int, e api.Errno, want int) {
	t.Helper()
	if e != api.OK || got != want {
		t.Errorf("%s: %d, %d; want %d", what, got, e, want)
	}
}

func TestPrecisionAndBound(t *testing.T) {
	for nodes := 4; nodes <= 8; nodes++ {
		for drift := range 65 {
			m, _ := medl.Plain(nodes, drift)
			n, e := medl.Precision(m)
			wantNumber(t, "Precision", n, e, 14*nodes*drift+8)
			n, e = medl.Bound(m)
			wantNumber(t, "Bound", n, e, 40*nodes)
		}
	}
	m, _ := medl.Plain(8, 64)
	n, e := medl.Precision(m)
	wantNumber(t, "Precision of 8 nodes, Drift 64", n, e, 7176)
	m, _ = medl.Plain(4, 0)
	n, e = medl.Precision(m)
	wantNumber(t, "Precision of 4 nodes, Drift 0", n, e, 8)
}

func TestListenAndRetry(t *testing.T) {
	for nodes := 4; nodes <= 8; nodes++ {
		m, _ := medl.Plain(nodes, 3)
		for node := range nodes {
			n, e := medl.Listen(m, node)
			wantNumber(t, "Listen", n, e, 4*nodes+2*(node+1))
			n, e = medl.Retry(m, node)
			wantNumber(t, "Retry", n, e, 2*(node+1))
		}
	}
	m, _ := medl.Plain(8, 0)
	n, e := medl.Listen(m, 0)
	wantNumber(t, "Listen of node 0 of 8", n, e, 34)
	n, e = medl.Listen(m, 7)
	wantNumber(t, "Listen of node 7 of 8", n, e, 48)
	n, e = medl.Retry(m, 0)
	wantNumber(t, "Retry of node 0 of 8", n, e, 2)
	n, e = medl.Retry(m, 7)
	wantNumber(t, "Retry of node 7 of 8", n, e, 16)
}

// P7.5

func TestPlainExample(t *testing.T) {
	m, e := medl.Plain(4, 0)
	if e != api.OK || m.Window != 16 || m.Gap != 38 || m.Slot != 76+medl.MaxAir(m) || m.Slot != 76+62 {
		t.Errorf("Plain(4, 0): %v, %d", m, e)
	}
	n, e := medl.Bound(m)
	wantNumber(t, "Bound", n, e, 160)
}

func TestPlain(t *testing.T) {
	for nodes := 4; nodes <= 8; nodes++ {
		for drift := range 65 {
			window := 16*nodes*drift + 16
			gap := 2*window + 6
			want := api.Medl{
				Nodes: nodes, Slot: 2*gap + 62, Gap: gap, Window: window, Drift: drift, Delay: 1, Cold: all(nodes),
				Modes: []api.Mode{{Data: slices.Repeat([]int{2}, nodes), Explicit: all(nodes), Next: all(1)}},
			}
			m, e := medl.Plain(nodes, drift)
			if e != api.OK || !same(m, want) {
				t.Errorf("Plain(%d, %d): %v, %d; want %v", nodes, drift, m, e, want)
			}
			wantCheck(t, "Plain", m, api.OK)
			for _, f := range numbers()[1:4] {
				wantCheck(t, "Plain with less of "+f.what, at(m, f.of, *f.of(&m)-1), api.ErrMedl)
			}
		}
	}
}

func TestPlainRefuses(t *testing.T) {
	noDrifts := append(extremes(), 65, 66, 1000)
	noNodes := append(extremes(), 0, 1, 2, 3, 9, 10, 255)
	refuse := func(nodes, drift int) {
		t.Helper()
		if m, e := medl.Plain(nodes, drift); e != api.ErrArg || !isNothing(m) || m.Cold != nil || m.Modes != nil {
			t.Errorf("Plain(%d, %d): %v, %d; want ErrArg", nodes, drift, m, e)
		}
	}
	for _, nodes := range noNodes {
		refuse(nodes, 0)
		refuse(nodes, 64)
		for _, drift := range noDrifts {
			refuse(nodes, drift)
		}
	}
	for _, drift := range noDrifts {
		refuse(4, drift)
		refuse(8, drift)
	}
}

// differences are changes of which each makes another list of base(n, 4, ..).
func differences() []change {
	var l []change
	for _, f := range numbers() {
		l = append(l,
			change{f.what + " one more", func(m *api.Medl) { *f.of(m)++ }},
			change{f.what + " one less", func(m *api.Medl) { *f.of(m)-- }},
			change{f.what + " the greatest", func(m *api.Medl) { *f.of(m) = math.MaxInt }},
		)
	}
	l = append(l,
		change{"Cold nil", func(m *api.Medl) { m.Cold = nil }},
		change{"Cold shorter", func(m *api.Medl) { m.Cold = m.Cold[:3] }},
		change{"Cold longer", func(m *api.Medl) { m.Cold = append(m.Cold, false) }},
		change{"Modes nil", func(m *api.Medl) { m.Modes = nil }},
		change{"Modes shorter", func(m *api.Medl) { m.Modes = m.Modes[:3] }},
		change{"Modes longer", func(m *api.Medl) { m.Modes = append(m.Modes, api.Mode{}) }},
		change{"Modes in another order", func(m *api.Medl) { slices.Reverse(m.Modes) }},
	)
	for i := range 4 {
		l = append(l, change{"a truth of Cold", func(m *api.Medl) { m.Cold[i] = !m.Cold[i] }})
	}
	for k := range 4 {
		l = append(l,
			change{"Data nil", func(m *api.Medl) { m.Modes[k].Data = nil }},
			change{"Data shorter", func(m *api.Medl) { m.Modes[k].Data = m.Modes[k].Data[:3] }},
			change{"Data longer", func(m *api.Medl) { m.Modes[k].Data = append(m.Modes[k].Data, 0) }},
			change{"Explicit nil", func(m *api.Medl) { m.Modes[k].Explicit = nil }},
			change{"Explicit shorter", func(m *api.Medl) { m.Modes[k].Explicit = m.Modes[k].Explicit[:3] }},
			change{"Explicit longer", func(m *api.Medl) { m.Modes[k].Explicit = append(m.Modes[k].Explicit, false) }},
			change{"Next nil", func(m *api.Medl) { m.Modes[k].Next = nil }},
			change{"Next shorter", func(m *api.Medl) { m.Modes[k].Next = m.Modes[k].Next[:3] }},
			change{"Next longer", func(m *api.Medl) { m.Modes[k].Next = append(m.Modes[k].Next, false) }},
		)
		for i := range 4 {
			l = append(l,
				change{"a number of Data", func(m *api.Medl) { m.Modes[k].Data[i]++ }},
				change{"a truth of Explicit", func(m *api.Medl) { m.Modes[k].Explicit[i] = !m.Modes[k].Explicit[i] }},
				change{"a truth of Next", func(m *api.Medl) { m.Modes[k].Next[i] = !m.Modes[k].Next[i] }},
			)
		}
	}
	return l
}

func TestSame(t *testing.T) {
	for _, m := range append(lists(), api.Medl{}) {
		if !medl.Same(m, m) || !medl.Same(m, own(m)) || !medl.Same(own(m), m) {
			t.Errorf("Same(%v) with itself: false", m)
		}
	}
	l := lists()
	for _, a := range l[:40] {
		for _, b := range l[20:60] {
			if medl.Same(a, b) != same(a, b) {
				t.Errorf("Same(%v, %v): %v", a, b, medl.Same(a, b))
			}
		}
	}
}

func TestSameTellsEachField(t *testing.T) {
	for _, m := range []api.Medl{base(4, 4, 1, 1), base(8, 4, 64, 64)} {
		for _, c := range differences() {
			x := own(m)
			c.do(&x)
			if medl.Same(m, x) || medl.Same(x, m) {
				t.Errorf("%s: Same(%v, %v): true", c.what, m, x)
			}
			if !medl.Same(x, own(x)) {
				t.Errorf("%s: Same(%v) with itself: false", c.what, x)
			}
		}
	}
}

func TestSameOfEmptyAndNil(t *testing.T) {
	bare := api.Medl{Nodes: 4, Modes: []api.Mode{{}, {}}}
	full := api.Medl{Nodes: 4, Cold: []bool{}, Modes: []api.Mode{{Data: []int{}, Explicit: []bool{}, Next: []bool{}}, {Next: []bool{}}}}
	if !medl.Same(bare, full) || !medl.Same(full, bare) {
		t.Error("Same of empty and nil fields: false")
	}
	if none, empty := (api.Medl{}), (api.Medl{Modes: []api.Mode{}}); !medl.Same(none, empty) || !medl.Same(empty, none) {
		t.Error("Same of no modes: false")
	}
	if one, none := (api.Medl{Modes: []api.Mode{{}}}), (api.Medl{}); medl.Same(one, none) || medl.Same(none, one) {
		t.Error("Same of an empty mode and none: true")
	}
}

// P7.7

func TestRoom(t *testing.T) {
	l := lists()
	c := chance(77)
	for range 1000 {
		l = append(l, c.list())
	}
	for _, m := range l {
		longest := coldAir
		for mode := range m.Modes {
			for node := range m.Nodes {
				n, _ := medl.Air(m, mode, node)
				longest = max(longest, n)
			}
		}
		if m.Gap+longest > m.Slot-m.Gap {
			t.Errorf("of %v a frame ends at %d, less than a Gap ahead of %d", m, m.Gap+longest, m.Slot)
		}
		if n, e := medl.Precision(m); e != api.OK || n > m.Window {
			t.Errorf("of %v Precision is %d, more than Window", m, n)
		}
	}
}

// P7.8

func TestApart(t *testing.T) {
	for _, m := range lists() {
		listens, waits := map[int]bool{}, map[int]bool{}
		shortest, mostWait := math.MaxInt, 0
		for node := range m.Nodes {
			listen, _ := medl.Listen(m, node)
			wait, _ := medl.Retry(m, node)
			if listens[listen] || waits[wait] {
				t.Errorf("of %v node %d listens or waits as long as another one", m, node)
			}
			listens[listen], waits[wait] = true, true
			shortest, mostWait = min(shortest, listen), max(mostWait, wait)
		}
		if shortest <= mostWait+m.Nodes {
			t.Errorf("of %v one listens %d, and one waits %d", m, shortest, mostWait)
		}
	}
}

// P7.9

func TestMoreRoom(t *testing.T) {
	l := lists()
	c := chance(79)
	for range 200 {
		l = append(l, c.list())
	}
	for _, m := range l {
		for _, slot := range []int{m.Slot + 1, (m.Slot + mostSlot) / 2, mostSlot} {
			if slot <= mostSlot {
				wantCheck(t, "a longer slot", at(m, numbers()[1].of, slot), api.OK)
			}
		}
		for drift := range m.Drift {
			wantCheck(t, "less Drift", at(m, numbers()[4].of, drift), api.OK)
		}
	}
}
