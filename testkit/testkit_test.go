package testkit_test

import (
	"fmt"
	"slices"
	"testing"

	"gamehall/api"
	"gamehall/testkit"
)

// A kit that does not see all memory would let other tests pass that should fail.

func TestSlices(t *testing.T) {
	for _, l := range [][]int{nil, {}, {4}, {4, 5, 6}} {
		r := testkit.Roomy(l, 7)
		if !slices.Equal(r, l) || cap(r) < len(l)+3 {
			t.Errorf("Roomy(%v): %v with the capacity %d", l, r, cap(r))
		}
		whole := testkit.Whole(r)
		if !slices.Equal(whole[:len(l)+3], append(slices.Clone(l), 7, 7, 7)) || len(whole) != cap(r) {
			t.Errorf("Whole: %v", whole)
		}
		testkit.Spoil(r, 9)
		if got := testkit.Whole(r); slices.ContainsFunc(got, func(n int) bool { return n != 9 }) || len(got) != cap(r) {
			t.Errorf("after Spoil: %v", got)
		}
		if whole[len(l)] != 7 {
			t.Errorf("the result of Whole shares memory with the argument: %v", whole)
		}
	}
}

func sample() api.Rules {
	return api.Rules{
		Name: "A", Width: 1, Height: 2,
		Pieces: []api.RulePiece{{Letter: 'A', Hand: 1, Promote: 2, Ways: []api.RuleWay{{DX: 3, DY: 4, Most: 5, Take: 6}}}, {Letter: 'B', Hand: 7, Promote: 8}},
		Start:  []int{9, 10},
		Ends:   []api.RuleEnd{{Kind: 11, Piece: 12, Count: 13}},
		Quiet:  14, Repeat: 15, Blocked: 16,
	}
}

func TestRules(t *testing.T) {
	r := sample()
	roomy := testkit.RoomyRules(r)
	if fmt.Sprint(roomy) != fmt.Sprint(r) {
		t.Errorf("RoomyRules(%v): %v", r, roomy)
	}
	whole := testkit.WholeRules(roomy)
	if len(whole.Pieces) < 5 || len(whole.Pieces[0].Ways) < 4 || len(whole.Pieces[1].Ways) < 3 || len(whole.Start) < 5 || len(whole.Ends) < 4 {
		t.Errorf("WholeRules: %v", whole)
	}
	testkit.SpoilRules(roomy)
	if fmt.Sprint(r) != fmt.Sprint(sample()) {
		t.Errorf("the result of RoomyRules shares memory with the argument: %v", r)
	}
	for _, p := range whole.Pieces {
		if p.Letter == '?' || slices.ContainsFunc(p.Ways, func(w api.RuleWay) bool { return w.DX == -77 }) {
			t.Errorf("the result of WholeRules shares memory with the argument: %v", whole)
		}
	}
}

// TestRuleNumbers has no two numbers at the same place.
func TestRuleNumbers(t *testing.T) {
	r := sample()
	var seen []int
	for _, n := range testkit.RuleNumbers(&r) {
		seen = append(seen, *n)
		*n = -1
	}
	slices.Sort(seen)
	if want := []int{0, 0, 1, 1, 2, 2, 3, 4, 5, 6, 7, 8, 9, 10, 11, 12, 13, 14, 15, 16}; !slices.Equal(seen, want[2:]) {
		t.Errorf("RuleNumbers: %v, want %v", seen, want[2:])
	}
}
