package bits_test

import (
	"math"
	"slices"
	"testing"

	"gamehall/bits"
)

// The general rules of the document, as far as they concern package bits.

// TestP1 needs no conditions: a panic, or a call without an end, fails it.
func TestP1(t *testing.T) {
	for _, i := range extremes {
		bits.Of([]int{i})
		bits.Of(extremes[slices.Index(extremes, i):])
		for _, j := range extremes {
			bits.Of([]int{i, j})
			for _, b := range []uint64{0, 1, 1 << 63, math.MaxUint64} {
				bits.Shift(b, i, j)
				bits.Ray(i, j, 1, b)
				bits.Ray(j, 1, i, b)
				bits.Ray(0, i, j, b)
				bits.Ray(63, i, j, b)
			}
		}
	}
	bits.Of(make([]int, 1<<16))
	for _, b := range sets() {
		bits.List(b)
		bits.All(b)
		bits.Count(b)
		bits.First(b)
		bits.Fill(b, math.MaxUint64)
		bits.Fill(math.MaxUint64, b)
		bits.Parts(b)
		// Its words would be too many, but the call itself ends.
		bits.Subsets(b)
	}
}

func TestP2ArgumentsStay(t *testing.T) {
	for _, list := range [][]int{{0, 9, 63}, {3, 3, 1}, {5, 64, 5}} {
		whole := append(slices.Clone(list), 40, 41, 42, 43)
		before := slices.Clone(whole)
		bits.Of(whole[:len(list)])
		if !slices.Equal(whole, before) {
			t.Errorf("Of: the argument and its capacity became %v, want %v", whole, before)
		}
	}
}

func TestP2ResultsAreNew(t *testing.T) {
	for _, b := range sets() {
		squares, parts := bits.List(b), bits.Parts(b)
		// All of the memory of the results is overwritten, with what is behind their ends.
		for i := range squares[:cap(squares)] {
			squares[:cap(squares)][i] = -7
		}
		for i := range parts[:cap(parts)] {
			parts[:cap(parts)][i] = 0x7777
		}
		if got, want := bits.List(b), slowList(b); !slices.Equal(got, want) {
			t.Errorf("List(%#x) after a change of its result: %v, want %v", b, got, want)
		}
		if got, want := bits.Parts(b), slowParts(b); !slices.Equal(got, want) {
			t.Errorf("Parts(%#x) after a change of its result: %#x, want %#x", b, got, want)
		}
	}
}

// TestP2ResultsAreApart holds two results of equal calls at the same time.
func TestP2ResultsAreApart(t *testing.T) {
	a, b := bits.List(513), bits.List(513)
	a[0] = 5
	if b[0] != 0 {
		t.Errorf("List: two results share memory")
	}
	c, d := bits.Parts(513), bits.Parts(513)
	c[0] = 5
	if d[0] != 1 {
		t.Errorf("Parts: two results share memory")
	}
}

func TestP2IteratorsAgain(t *testing.T) {
	all, subsets := bits.All(0x8001), bits.Subsets(5)
	for range 3 {
		for range all {
			break
		}
		for range subsets {
			break
		}
		if got, want := slices.Collect(all), []int{0, 15}; !slices.Equal(got, want) {
			t.Errorf("All, used again: %v, want %v", got, want)
		}
		if got, want := slices.Collect(subsets), []uint64{0, 1, 4, 5}; !slices.Equal(got, want) {
			t.Errorf("Subsets, used again: %v, want %v", got, want)
		}
	}
}

func TestP2IteratorsNested(t *testing.T) {
	all, subsets := bits.All(7), bits.Subsets(5)
	var pairs [][2]int
	for a := range all {
		for b := range all {
			pairs = append(pairs, [2]int{a, b})
		}
	}
	if want := [][2]int{{0, 0}, {0, 1}, {0, 2}, {1, 0}, {1, 1}, {1, 2}, {2, 0}, {2, 1}, {2, 2}}; !slices.Equal(pairs, want) {
		t.Errorf("All within itself: %v, want %v", pairs, want)
	}
	var inner []uint64
	for range subsets {
		for b := range subsets {
			inner = append(inner, b)
		}
	}
	if want := slices.Repeat([]uint64{0, 1, 4, 5}, 4); !slices.Equal(inner, want) {
		t.Errorf("Subsets within itself: %v, want %v", inner, want)
	}
}

// TestP2Deterministic compares equal calls with others between them.
func TestP2Deterministic(t *testing.T) {
	type results struct {
		of, shift, ray, fill uint64
		first, count         int
		list                 []int
		parts                []uint64
	}
	call := func(b uint64) results {
		var r results
		r.list, r.parts, r.count = bits.List(b), bits.Parts(b), bits.Count(b)
		r.of, _ = bits.Of(r.list)
		r.first, _ = bits.First(b)
		r.shift, r.fill = bits.Shift(b, 1, -2), bits.Fill(b, b>>1)
		r.ray, _ = bits.Ray(27, 1, 1, b)
		return r
	}
	var before []results
	for _, b := range sets() {
		before = append(before, call(b))
	}
	for i, b := range sets() {
		x, y := before[i], call(b)
		same := x.of == y.of && x.shift == y.shift && x.ray == y.ray && x.fill == y.fill && x.first == y.first && x.count == y.count
		if !same || !slices.Equal(x.list, y.list) || !slices.Equal(x.parts, y.parts) {
			t.Errorf("equal calls with %#x: %v, then %v", b, x, y)
		}
	}
}
