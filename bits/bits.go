// Package bits is layer 1: strings of bits, of which frames are made; see shared/doc/01-bits.md.
package bits

import (
	"bytes"
	"iter"

	"metronome/api"
)

const (
	byteLen  = 8
	maxWidth = 64
)

// Check tells whether bits may be.
func Check(b api.Bits) api.Errno {
	// N comes first: beyond its limits the bytes can't be reckoned without a wrap-round.
	if b.N < 0 || b.N > api.MaxBits || len(b.B) != byteCount(b.N) {
		return api.ErrBits
	}
	for i := b.N; i < len(b.B)*byteLen; i++ {
		if isOne(b, i) {
			return api.ErrBits
		}
	}
	return api.OK
}

// Of are bits by truths.
func Of(l ...bool) (api.Bits, api.Errno) {
	if len(l) > api.MaxBits {
		return api.Bits{}, api.ErrLong
	}
	out := zeros(len(l))
	for i, is := range l {
		if is {
			turn(out, i)
		}
	}
	return out, api.OK
}

// Put puts a number behind bits.
func Put(b api.Bits, v uint64, width int) (api.Bits, api.Errno) {
	if Check(b) != api.OK {
		return api.Bits{}, api.ErrBits
	}
	if !isWidth(width) || v>>width != 0 {
		return api.Bits{}, api.ErrArg
	}
	if width > api.MaxBits-b.N {
		return api.Bits{}, api.ErrLong
	}
	out := grown(b, width)
	for i := range width {
		if v>>(width-1-i)&1 == 1 {
			turn(out, b.N+i)
		}
	}
	return out, api.OK
}

// Get is the number that stands somewhere.
func Get(b api.Bits, at, width int) (uint64, api.Errno) {
	if Check(b) != api.OK {
		return 0, api.ErrBits
	}
	// at is held against a difference: at + width may be more than an int holds.
	if !isWidth(width) || at < 0 || at > b.N-width {
		return 0, api.ErrArg
	}
	v := uint64(0)
	for i := range width {
		v <<= 1
		if isOne(b, at+i) {
			v |= 1
		}
	}
	return v, api.OK
}

// Slice is a part.
func Slice(b api.Bits, from, to int) (api.Bits, api.Errno) {
	if Check(b) != api.OK {
		return api.Bits{}, api.ErrBits
	}
	if from < 0 || from > to || to > b.N {
		return api.Bits{}, api.ErrArg
	}
	out := zeros(to - from)
	for i := range out.N {
		if isOne(b, from+i) {
			turn(out, i)
		}
	}
	return out, api.OK
}

// Join are some behind each other.
func Join(l ...api.Bits) (api.Bits, api.Errno) {
	// All are checked ahead of the length: ErrBits is named first, wherever such bits stand.
	for _, b := range l {
		if Check(b) != api.OK {
			return api.Bits{}, api.ErrBits
		}
	}
	n := 0
	for _, b := range l {
		if b.N > api.MaxBits-n {
			return api.Bits{}, api.ErrLong
		}
		n += b.N
	}
	out := zeros(n)
	at := 0
	for _, b := range l {
		for i, is := range All(b) {
			if is {
				turn(out, at+i)
			}
		}
		at += b.N
	}
	return out, api.OK
}

// Flip turns some bits.
func Flip(b api.Bits, at ...int) (api.Bits, api.Errno) {
	if Check(b) != api.OK {
		return api.Bits{}, api.ErrBits
	}
	out := grown(b, 0)
	for _, i := range at {
		if i < 0 || i >= b.N {
			return api.Bits{}, api.ErrArg
		}
		turn(out, i)
	}
	return out, api.OK
}

// Ones is how many bits are 1.
func Ones(b api.Bits) int {
	n := 0
	for _, is := range All(b) {
		if is {
			n++
		}
	}
	return n
}

// All goes through the places and whether the bit there is 1.
func All(b api.Bits) iter.Seq2[int, bool] {
	if Check(b) != api.OK {
		return func(func(int, bool) bool) {}
	}
	// A copy: what is told is what was there when it was asked for.
	own := grown(b, 0)
	return func(yield func(int, bool) bool) {
		for i := range own.N {
			if !yield(i, isOne(own, i)) {
				return
			}
		}
	}
}

// Text is bits as digits.
func Text(b api.Bits) string {
	var digits []byte
	for _, is := range All(b) {
		if is {
			digits = append(digits, '1')
		} else {
			digits = append(digits, '0')
		}
	}
	return string(digits)
}

// Parse are the bits of digits.
func Parse(s string) (api.Bits, api.Errno) {
	if len(s) > api.MaxBits {
		return api.Bits{}, api.ErrLong
	}
	out := zeros(len(s))
	for i := range len(s) {
		switch s[i] {
		case '0':
		case '1':
			turn(out, i)
		default:
			return api.Bits{}, api.ErrText
		}
	}
	return out, api.OK
}

// Same tells whether bits are the same, whether they may be or not.
func Same(a, b api.Bits) bool { return a.N == b.N && bytes.Equal(a.B, b.B) }

// byteCount is how many bytes n bits need.
func byteCount(n int) int { return (n + byteLen - 1) / byteLen }

// zeros are n bits that are 0, in memory of their own.
func zeros(n int) api.Bits { return api.Bits{N: n, B: make([]byte, byteCount(n))} }

// grown are bits and as many behind them that are 0, in memory of their own.
func grown(b api.Bits, more int) api.Bits {
	out := zeros(b.N + more)
	copy(out.B, b.B)
	return out
}

// mask is the bit of a place within its byte.
func mask(at int) byte { return 1 << (byteLen - 1 - at%byteLen) }

func isOne(b api.Bits, at int) bool { return b.B[at/byteLen]&mask(at) != 0 }

// turn turns a bit where it stands: for bits that a call here has made itself.
func turn(b api.Bits, at int) { b.B[at/byteLen] ^= mask(at) }

func isWidth(width int) bool { return width >= 0 && width <= maxWidth }
