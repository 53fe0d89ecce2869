package medl

import (
	"metronome/api"
	"metronome/crc"
)

// How many bytes there are of what stands in a list's bytes.
const (
	byteWidth = 1 // a small number, or a set of truths
	timeWidth = 4
	sumWidth  = 3
	headWidth = 3*byteWidth + 3*timeWidth + 3*byteWidth // all that is ahead of the modes
	byteLen   = 8
)

// Where in the head it stands how many nodes and modes there are.
const (
	nodesAt = 1
	modesAt = 2
)

// writer puts numbers behind each other.
type writer struct{ out []byte }

// put puts a number behind all others, its highest byte first.
func (w *writer) put(n, width int) {
	for i := width - 1; i >= 0; i-- {
		w.out = append(w.out, byte(n>>(i*byteLen)))
	}
}

// tell puts all that a list's bytes have, but for the sum.
func tell(m api.Medl, put func(n, width int)) {
	put(api.MedlMagic, byteWidth)
	put(m.Nodes, byteWidth)
	put(len(m.Modes), byteWidth)
	put(m.Slot, timeWidth)
	put(m.Gap, timeWidth)
	put(m.Window, timeWidth)
	put(m.Drift, byteWidth)
	put(m.Delay, byteWidth)
	put(setOf(m.Cold), byteWidth)
	for _, o := range m.Modes {
		for _, n := range o.Data {
			put(n, byteWidth)
		}
		put(setOf(o.Explicit), byteWidth)
		put(setOf(o.Next), byteWidth)
	}
}

// reader takes numbers from the front, where its bytes are known to be there.
type reader struct{ rest []byte }

// take is the next number, of so many bytes.
func (r *reader) take(width int) int {
	n := 0
	for _, v := range r.rest[:width] {
		n = n<<byteLen | int(v)
	}
	r.rest = r.rest[width:]
	return n
}

// truths are the next set's truths, n of them.
func (r *reader) truths(n int) []bool {
	set := r.take(byteWidth)
	l := make([]bool, n)
	for i := range l {
		l[i] = set>>i&1 == 1
	}
	return l
}

// numbers are the next n numbers.
func (r *reader) numbers(n int) []int {
	l := make([]int, n)
	for i := range l {
		l[i] = r.take(byteWidth)
	}
	return l
}

// read is the list of bytes that are of their length, whether it may be or not.
func read(b []byte) api.Medl {
	r := reader{rest: b[nodesAt:]}
	m := api.Medl{Nodes: r.take(byteWidth)}
	modes := r.take(byteWidth)
	m.Slot = r.take(timeWidth)
	m.Gap = r.take(timeWidth)
	m.Window = r.take(timeWidth)
	m.Drift = r.take(byteWidth)
	m.Delay = r.take(byteWidth)
	m.Cold = r.truths(m.Nodes)
	for range modes {
		o := api.Mode{Data: r.numbers(m.Nodes)}
		o.Explicit = r.truths(m.Nodes)
		o.Next = r.truths(modes)
		m.Modes = append(m.Modes, o)
	}
	return m
}

// isOfItsLength tells whether there are as many bytes as nodes and modes ask for.
func isOfItsLength(b []byte) bool {
	if len(b) < headWidth {
		return false
	}
	nodes, modes := int(b[nodesAt]), int(b[modesAt])
	return len(b) == headWidth+modes*(nodes+2)*byteWidth+sumWidth
}

// setOf is the number with the bit 2^i for each place i whose truth holds.
func setOf(truths []bool) int {
	set := 0
	for i, holds := range truths {
		if holds {
			set |= 1 << i
		}
	}
	return set
}

// sumOf is the sum of bytes that are no more than a list has.
func sumOf(b []byte) int {
	sum, _ := crc.Sum(api.Bits{N: len(b) * byteLen, B: b})
	return int(sum)
}
