package zob_test

import (
	"fmt"
	"math/rand/v2"
	"slices"
	"testing"

	"gamehall/api"
	"gamehall/moves"
	"gamehall/testkit"
	"gamehall/zob"
)

// The general rules of the document, as far as they concern package zob. Its results are numbers, so that they share no memory.

// tried returns moves that are legal in the sample, and others.
func tried() []api.Move {
	return []api.Move{{From: -1, To: 0, Piece: 0}, {From: 1, To: 0, Piece: 2}, {From: 7, To: 9, Piece: 2}, {From: 5, To: 8, Piece: 0}, {From: -2, To: -1, Piece: -1}, {From: 12, To: 12, Piece: 3}}
}

// callAll calls the functions with a position.
func callAll(r api.Rules, p api.Position, l ...api.Move) {
	zob.Key(r, p)
	for _, m := range l {
		zob.Change(r, p, m)
	}
}

// TestP1Numbers needs no conditions: a panic, or a call without an end, fails it.
func TestP1Numbers(t *testing.T) {
	callAll(api.Rules{}, api.Position{}, tried()...)
	sampleRules, samplePosition := sample()
	for r, p := range testkit.Changed(sampleRules, samplePosition, extremes) {
		callAll(r, p, tried()...)
		callAll(r, samplePosition, tried()...)
		callAll(sampleRules, p, tried()...)
	}
	for _, n := range extremes {
		zob.Mix(n)
	}
}

func TestP1Moves(t *testing.T) {
	strange := testkit.MovesOf([]int{extremes[0], -2, -1, 0, 1, 6, 63, 64, extremes[len(extremes)-1]})
	for r, p := range games(50) {
		callAll(r, p, strange...)
	}
	for _, size := range testkit.Boards() {
		r := board(size[0], size[1], "ABCDEF")
		for cell := range 13 {
			full := slices.Repeat([]int{1000}, 6)
			p := api.Position{Cells: slices.Repeat([]int{cell}, len(r.Start)), Hands: [2][]int{full, full}, Turn: cell % 2, Quiet: 200}
			hold(t, r, p)
			callAll(r, p, strange...)
		}
	}
}

func TestP1Lists(t *testing.T) {
	sampleRules, samplePosition := sample()
	for r, p := range testkit.Stretched(sampleRules, samplePosition) {
		callAll(r, p, tried()...)
	}
}

// TestP2ArgumentsStay looks at the unused capacity of the arguments, too.
func TestP2ArgumentsStay(t *testing.T) {
	test := func(r api.Rules, p api.Position) {
		r, p = testkit.RoomyRules(r), testkit.RoomyPosition(p)
		before := fmt.Sprint(testkit.WholeRules(r), testkit.WholePosition(p))
		legal, _ := moves.All(r, p)
		callAll(r, p, append(tried(), legal...)...)
		if after := fmt.Sprint(testkit.WholeRules(r), testkit.WholePosition(p)); after != before {
			t.Errorf("the arguments became %s, want %s", after, before)
		}
	}
	for r, p := range games(300) {
		test(r, p)
	}
	r, p := sample()
	r.Repeat = 1
	test(r, p)
	r, p = sample()
	p.Quiet = 201
	test(r, p)
}

// TestP2Deterministic compares equal calls with others between them. The arguments of the first ones are changed afterwards.
func TestP2Deterministic(t *testing.T) {
	call := func(r api.Rules, p api.Position) string {
		legal, _ := moves.All(r, p)
		s := fmt.Sprint(zob.Key(r, p))
		for _, m := range append(tried(), legal...) {
			key, err := zob.Change(r, p, m)
			s += fmt.Sprint(" ", key, err, zob.Mix(m.To))
		}
		return s
	}
	type pair struct {
		r api.Rules
		p api.Position
	}
	var l []pair
	var before []string
	for r, p := range games(300) {
		spoiledRules, spoiledPosition := testkit.RoomyRules(r), testkit.RoomyPosition(p)
		before = append(before, call(spoiledRules, spoiledPosition))
		testkit.SpoilRules(spoiledRules)
		testkit.SpoilPosition(spoiledPosition)
		l = append(l, pair{r, p})
	}
	for _, i := range rand.New(rand.NewPCG(8, 2)).Perm(len(l)) {
		if got := call(l[i].r, l[i].p); got != before[i] {
			t.Errorf("equal calls for %+v: %s, then %s", l[i], before[i], got)
		}
	}
}
