// Package bits is described in doc/01-bits.md.
package bits

import (
	"iter"
	mathbits "math/bits"

	"gamehall/api"
)

const (
	side    = 8
	squares = side * side

	firstRow    uint64 = 0x00000000000000ff
	firstColumn uint64 = 0x0101010101010101
)

// Of returns the set of the squares of a list.
func Of(l []int) (uint64, api.Errno) {
	var set uint64
	for _, s := range l {
		if !isSquare(s) {
			return 0, api.ErrRange
		}
		if set&single(s) != 0 {
			return 0, api.ErrTwice
		}
		set |= single(s)
	}
	return set, api.OK
}

// List returns the squares of a set in increasing order.
func List(b uint64) []int {
	l := make([]int, 0, Count(b))
	for s := range All(b) {
		l = append(l, s)
	}
	return l
}

// All returns an iterator over the squares of a set in increasing order.
func All(b uint64) iter.Seq[int] {
	return func(yield func(int) bool) {
		// rest belongs to this run: the iterator can be used again, also within itself.
		for rest := b; rest != 0; rest &^= least(rest) {
			if !yield(mathbits.TrailingZeros64(rest)) {
				return
			}
		}
	}
}

// Count returns the number of squares of a set.
func Count(b uint64) int {
	return mathbits.OnesCount64(b)
}

// First returns the least square of a set.
func First(b uint64) (int, api.Errno) {
	for s := range All(b) {
		return s, api.OK
	}
	return 0, api.ErrNone
}

// Shift moves the squares of a set by dx columns and dy rows.
func Shift(b uint64, dx, dy int) uint64 {
	// Comparing without negating: the least int has no opposite.
	if dx <= -side || dx >= side || dy <= -side || dy >= side {
		return 0
	}
	return shiftRows(shiftColumns(b, dx), dy)
}

// shiftColumns first removes what would wrap around into the next row.
func shiftColumns(b uint64, dx int) uint64 {
	if dx < 0 {
		return (b & (firstColumn * (firstRow << -dx & firstRow))) >> -dx
	}
	return (b & (firstColumn * (firstRow >> dx))) << dx
}

// shiftRows needs no mask: what leaves the board leaves the word.
func shiftRows(b uint64, dy int) uint64 {
	if dy < 0 {
		return b >> (side * -dy)
	}
	return b << (side * dy)
}

// Ray returns the squares that are reached by steps from a square, up to the first occupied one.
func Ray(square, dx, dy int, occupied uint64) (uint64, api.Errno) {
	if !isSquare(square) {
		return 0, api.ErrRange
	}
	if !isStep(dx) || !isStep(dy) || dx == 0 && dy == 0 {
		return 0, api.ErrArg
	}
	var ray uint64
	for at := Shift(single(square), dx, dy); at != 0; at = Shift(at, dx, dy) {
		ray |= at
		if at&occupied != 0 {
			break
		}
	}
	return ray, api.OK
}

// Fill returns the squares of within that are connected with squares of b.
func Fill(b, within uint64) uint64 {
	reached := b & within
	for {
		wider := within & (reached | neighbours(reached))
		if wider == reached {
			return reached
		}
		reached = wider
	}
}

// Parts returns the connected parts of a set, in the order of their least squares.
func Parts(b uint64) []uint64 {
	var parts []uint64
	for rest := b; rest != 0; {
		// Starting at the least square that is left puts the parts in their order.
		part := Fill(least(rest), rest)
		parts = append(parts, part)
		rest &^= part
	}
	return parts
}

// Subsets returns an iterator over all subsets of a set, in increasing order.
func Subsets(b uint64) iter.Seq[uint64] {
	return func(yield func(uint64) bool) {
		var sub uint64
		for yield(sub) && sub != b {
			// Subtracting b is adding 1 with all squares outside b set, so that the carry passes over them.
			sub = (sub - b) & b
		}
	}
}

func isSquare(s int) bool {
	return 0 <= s && s < squares
}

func isStep(d int) bool {
	return -1 <= d && d <= 1
}

func single(s int) uint64 {
	return 1 << s
}

func least(b uint64) uint64 {
	return b & -b
}

func neighbours(b uint64) uint64 {
	return Shift(b, 1, 0) | Shift(b, -1, 0) | Shift(b, 0, 1) | Shift(b, 0, -1)
}
