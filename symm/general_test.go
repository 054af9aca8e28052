package symm_test

import (
	"slices"
	"testing"

	"gamehall/symm"
	"gamehall/testkit"
)

// The general rules of the document, as far as they concern package symm.

// TestP1 needs no conditions: a panic, or a call without an end, fails it.
func TestP1(t *testing.T) {
	long := make([]int, 1<<12)
	for _, w := range extremes {
		for _, h := range extremes {
			symm.Check(w, h)
			symm.All(w, h)
			for _, cells := range [][]int{nil, {1}, long[:64], long} {
				symm.Canon(w, h, cells)
			}
			for _, a := range extremes {
				symm.Inverse(w, h, a)
				symm.Orbit(w, h, a)
				symm.Colours(w, h, a)
				symm.Apply(w, h, a, nil)
				symm.Apply(w, h, a, long[:64])
				symm.Apply(w, h, a, long)
				for _, b := range extremes {
					symm.Map(w, h, a, b)
					symm.Compose(w, h, a, b)
				}
			}
		}
	}
}

func TestP2ArgumentsStay(t *testing.T) {
	for _, b := range testkit.Boards() {
		w, h := b[0], b[1]
		for s := range slowCount(w, h) {
			for _, n := range append(wrongLengths(w, h), w*h) {
				whole := scattered(8, n/8+1, s, 9)
				before := slices.Clone(whole)
				symm.Apply(w, h, s, whole[:n])
				symm.Canon(w, h, whole[:n])
				if !slices.Equal(whole, before) {
					t.Fatalf("board of %d by %d: %d cells and their capacity became %v, want %v", w, h, n, whole, before)
				}
			}
		}
	}
}

// spoil overwrites all of the memory of a result, with what is behind its end.
func spoil(l []int) {
	for i := range l[:cap(l)] {
		l[:cap(l)][i] = -7
	}
}

// TestP2ResultsAreNew changes results, and looks whether arguments, or later results of equal calls, have changed with them.
func TestP2ResultsAreNew(t *testing.T) {
	for _, b := range testkit.Boards() {
		w, h := b[0], b[1]
		for s := range slowCount(w, h) {
			cells := scattered(w, h, s, 5)
			before := slices.Clone(cells)
			square := s % (w * h)
			results := func() [][]int {
				all, _ := symm.All(w, h)
				applied, _ := symm.Apply(w, h, s, cells)
				orbit, _ := symm.Orbit(w, h, square)
				first, _, _ := symm.Canon(w, h, cells)
				return [][]int{all, applied, orbit, first}
			}
			spoiled, kept := results(), results()
			for i, l := range spoiled {
				want := slices.Clone(l)
				spoil(l)
				if !slices.Equal(cells, before) {
					t.Fatalf("board of %d by %d: result %d shares memory with the argument", w, h, i)
				}
				if !slices.Equal(kept[i], want) || !slices.Equal(results()[i], want) {
					t.Fatalf("board of %d by %d: result %d shares memory with that of another call", w, h, i)
				}
			}
		}
	}
}

// TestP2ArgumentsAreNotRetained changes arguments after the call.
func TestP2ArgumentsAreNotRetained(t *testing.T) {
	cells := []int{1, 2, 3, 4}
	applied, _ := symm.Apply(2, 2, 0, cells)
	first, _, _ := symm.Canon(2, 2, cells)
	spoil(cells)
	if want := []int{1, 2, 3, 4}; !slices.Equal(applied, want) || !slices.Equal(first, want) {
		t.Errorf("after a change of the argument: %v and %v, want %v", applied, first, want)
	}
}

// TestP2Deterministic compares equal calls with others between them.
func TestP2Deterministic(t *testing.T) {
	type results struct {
		numbers [5]int
		lists   [4][]int
	}
	call := func(w, h int) results {
		var r results
		cells := scattered(w, h, w+h, 3)
		r.numbers[0], _ = symm.Map(w, h, 3, w-1)
		r.numbers[1], _ = symm.Compose(w, h, 2, 3)
		r.numbers[2], _ = symm.Inverse(w, h, 1)
		r.numbers[3], _ = symm.Colours(w, h, 2)
		r.lists[0], _ = symm.All(w, h)
		r.lists[1], _ = symm.Apply(w, h, 2, cells)
		r.lists[2], _ = symm.Orbit(w, h, w-1)
		r.lists[3], r.numbers[4], _ = symm.Canon(w, h, cells)
		return r
	}
	var before []results
	for _, b := range testkit.Boards() {
		before = append(before, call(b[0], b[1]))
	}
	for i, b := range testkit.Boards() {
		x, y := before[i], call(b[0], b[1])
		if x.numbers != y.numbers || !slices.EqualFunc(x.lists[:], y.lists[:], slices.Equal[[]int]) {
			t.Errorf("equal calls for a board of %d by %d: %v, then %v", b[0], b[1], x, y)
		}
	}
}
