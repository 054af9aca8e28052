package minimax_test

import (
	"fmt"
	"math/rand/v2"
	"slices"
	"testing"

	"gamehall/api"
	"gamehall/minimax"
	"gamehall/testkit"
)

// The general rules of the document, as far as they concern package minimax.

// TestP1Numbers needs no conditions: a panic, or a call without an end, fails it.
func TestP1Numbers(t *testing.T) {
	for _, n := range extremes {
		minimax.Nearer(n)
	}
	view(api.Rules{}, api.Position{}, 1)
	sampleRules, samplePosition := sample()
	for r, p := range testkit.Changed(sampleRules, samplePosition, extremes) {
		view(r, p, 2)
		view(r, samplePosition, 2)
		view(sampleRules, p, 2)
	}
}

// TestP1Boards has boards of all sizes with pieces that move everywhere, and all depths. It needs no conditions, either.
func TestP1Boards(t *testing.T) {
	for i, size := range testkit.Boards() {
		r := api.Rules{Name: "ALL", Width: size[0], Height: size[1], Pieces: []api.RulePiece{{Letter: 'A'}}, Start: make([]int, size[0]*size[1]), Keeps: true}
		for _, dx := range []int{-1, 0, 1} {
			for _, dy := range []int{-1, 1} {
				r.Pieces[0].Ways = append(r.Pieces[0].Ways, api.RuleWay{DX: dx, DY: dy, Most: 7, Take: api.TakeMay})
			}
		}
		for cell := range 3 {
			p := api.Position{Cells: slices.Repeat([]int{cell}, len(r.Start)), Hands: [2][]int{{1000}, {1000}}, Turn: size[0] % 2, Quiet: 200}
			view(r, p, i%13)
		}
	}
}

func TestP1Lists(t *testing.T) {
	sampleRules, samplePosition := sample()
	for r, p := range testkit.Stretched(sampleRules, samplePosition) {
		view(r, p, 2)
	}
}

// TestP2ArgumentsStay looks at the unused capacity of the arguments, too.
func TestP2ArgumentsStay(t *testing.T) {
	test := func(r api.Rules, p api.Position, depth int) {
		r, p = testkit.RoomyRules(r), testkit.RoomyPosition(p)
		before := fmt.Sprint(testkit.WholeRules(r), testkit.WholePosition(p))
		view(r, p, depth)
		if after := fmt.Sprint(testkit.WholeRules(r), testkit.WholePosition(p)); after != before {
			t.Errorf("the arguments became %s, want %s", after, before)
		}
	}
	for r, p := range games(100) {
		for depth := -1; depth < 3 && (depth < 0 || isShort(r, p, depth, 2000)); depth++ {
			test(r, p, depth)
		}
	}
	r, p := sample()
	for _, w := range testkit.Wrongs(r, p) {
		test(w.Rules, w.Position, 2)
	}
	test(r, p, 12)
}

// TestP2ResultsAreNew changes a result, and looks whether results of equal calls, or the arguments, have changed with it.
func TestP2ResultsAreNew(t *testing.T) {
	for r, p := range games(100) {
		if !isShort(r, p, 2, 2000) {
			continue
		}
		kept, err := minimax.Line(r, p, 2)
		want, before := fmt.Sprint(kept, err), fmt.Sprint(r, p)
		spoiled, _ := minimax.Line(r, p, 2)
		testkit.Spoil(spoiled, api.Move{From: -77})
		if got := fmt.Sprint(kept, err); got != want {
			t.Errorf("after a change of a result another one is %s, want %s", got, want)
		}
		if got := fmt.Sprint(minimax.Line(r, p, 2)); got != want {
			t.Errorf("after a change of a result an equal call has %s, want %s", got, want)
		}
		if after := fmt.Sprint(r, p); after != before {
			t.Errorf("after a change of a result the arguments are %s, want %s", after, before)
		}
	}
}

// TestP2Deterministic compares equal calls with others between them. The arguments of the first ones are changed afterwards.
func TestP2Deterministic(t *testing.T) {
	type pair struct {
		r api.Rules
		p api.Position
	}
	var l []pair
	var before []string
	for r, p := range games(200) {
		if !isShort(r, p, 2, 2000) {
			continue
		}
		own := pair{testkit.RoomyRules(r), testkit.RoomyPosition(p)}
		before = append(before, view(own.r, own.p, 2))
		testkit.SpoilRules(own.r)
		testkit.SpoilPosition(own.p)
		l = append(l, pair{r, p})
	}
	for _, i := range rand.New(rand.NewPCG(12, 2)).Perm(len(l)) {
		if got := view(l[i].r, l[i].p, 2); got != before[i] {
			t.Errorf("equal calls for %+v: %s, then %s", l[i], before[i], got)
		}
	}
}
