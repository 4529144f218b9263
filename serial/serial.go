// Package serial handles indexes of 16 bits that wrap around, positions in a
// ring with their wrap counter, and the suppression of events.
// It is layer 1: see shared/doc/01-serial.md.
package serial

import (
	"dumbwaiter/api"
)

const (
	// wrapBit is where a word keeps the wrap counter; the bits below it are At.
	wrapBit = 1 << 15
	atBits  = wrapBit - 1
)

// Dist returns the distance from b to a, modulo 2^16.
func Dist(a, b uint16) uint16 { return a - b }

// Need reports whether the index of the event was passed on the way from old to next.
func Need(event, next, old uint16) bool {
	// The distance 0 less 1 is the greatest number, so an event that is next
	// itself is never below the distance from old.
	return Dist(next, event)-1 < Dist(next, old)
}

// Start returns the position at which both sides of a ring begin.
func Start() api.Pos { return api.Pos{Wrap: true} }

// Check returns ErrArg if the size, or the position in a ring of that size, is not valid.
func Check(p api.Pos, size int) api.Errno {
	if !validSize(size) || p.At < 0 || p.At >= size {
		return api.ErrArg
	}
	return api.OK
}

// Go returns the position advanced by a number from 0 to the size.
func Go(p api.Pos, by, size int) (api.Pos, api.Errno) {
	if e := checkMove(p, by, size); e != api.OK {
		return api.Pos{}, e
	}
	p.At += by
	if p.At >= size {
		p.At -= size
		p.Wrap = !p.Wrap
	}
	return p, api.OK
}

// Word returns the position as a word: At, with Wrap in bit 15.
func Word(p api.Pos) uint16 {
	w := uint16(p.At) & atBits
	if p.Wrap {
		w |= wrapBit
	}
	return w
}

// Read returns the position of a word, in a ring of that size.
func Read(w uint16, size int) (api.Pos, api.Errno) {
	if !validSize(size) {
		return api.Pos{}, api.ErrArg
	}
	p := api.Pos{At: int(w & atBits), Wrap: w&wrapBit != 0}
	if p.At >= size {
		return api.Pos{}, api.ErrBad
	}
	return p, api.OK
}

// NeedAt reports whether the position of the event was passed when the position
// was advanced by that number to next.
func NeedAt(event, next api.Pos, by, size int) (bool, api.Errno) {
	if checkMove(event, by, size) != api.OK || checkMove(next, by, size) != api.OK {
		return false, api.ErrArg
	}
	at := uint16(event.At)
	if event.Wrap != next.Wrap {
		// With the other wrap counter the event was a round earlier.
		at -= uint16(size)
	}
	to := uint16(next.At)
	return Need(at, to, to-uint16(by)), api.OK
}

// Between returns by how much a must be advanced to reach b: less than two rounds,
// since after two the wrap counter is as it was.
func Between(a, b api.Pos, size int) (int, api.Errno) {
	if Check(a, size) != api.OK || Check(b, size) != api.OK {
		return 0, api.ErrArg
	}
	n := b.At - a.At
	if a.Wrap != b.Wrap {
		n += size
	}
	if n < 0 {
		n += 2 * size
	}
	return n, api.OK
}

// Power reports whether n is a power of 2 from 1 to MaxSize.
func Power(n int) bool { return validSize(n) && onlyBit(uint64(n)) }

// Align returns the smallest multiple of to, a power of 2, that is at least n.
func Align(n, to uint64) (uint64, api.Errno) {
	if !onlyBit(to) {
		return 0, api.ErrArg
	}
	rest := n & (to - 1)
	if rest == 0 {
		return n, api.OK
	}
	up := n - rest + to
	if up < n {
		return 0, api.ErrArg
	}
	return up, api.OK
}

func validSize(size int) bool { return size >= 1 && size <= api.MaxSize }

func checkMove(p api.Pos, by, size int) api.Errno {
	if e := Check(p, size); e != api.OK {
		return e
	}
	// The upper limit also keeps the sum of At and by from overflowing.
	if by < 0 || by > size {
		return api.ErrArg
	}
	return api.OK
}

// onlyBit reports whether exactly one bit of n is set.
func onlyBit(n uint64) bool { return n != 0 && n&(n-1) == 0 }
