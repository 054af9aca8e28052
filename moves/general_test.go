package moves_test

import (
	"fmt"
	"math/rand/v2"
	"slices"
	"testing"

	"gamehall/api"
	"gamehall/moves"
	"gamehall/testkit"
)

// The general rules of the document, as far as they concern package moves.

// tried returns moves of the sample, and others.
func tried() []api.Move {
	return []api.Move{{From: -1, To: 2, Piece: 0}, {From: -1, To: 0, Piece: 2}, {From: 0, To: 3, Piece: 0}, {From: 7, To: 11, Piece: 2}, {From: 5, To: 8, Piece: 0}, {From: -2, To: -1, Piece: -1}, {From: 12, To: 12, Piece: 3}}
}

// callAll calls all functions of the package.
func callAll(r api.Rules, p api.Position, l ...api.Move) {
	moves.All(r, p)
	for _, m := range l {
		moves.Legal(r, p, m)
		moves.After(r, p, m)
	}
}

// TestP1Numbers needs no conditions: a panic, or a call without an end, fails it.
func TestP1Numbers(t *testing.T) {
	callAll(api.Rules{}, api.Position{}, tried()...)
	c := sample()
	for i := range testkit.RuleNumbers(&c.r) {
		for _, n := range extremes {
			c := sample()
			*testkit.RuleNumbers(&c.r)[i] = n
			callAll(c.r, c.p, tried()...)
			// All others are at and beyond their bounds, too.
			for j, spot := range testkit.RuleNumbers(&c.r) {
				*spot = extremes[(i+j)%len(extremes)]
			}
			callAll(c.r, c.p, tried()...)
		}
	}
	for i := range testkit.PositionNumbers(&c.p) {
		for _, n := range extremes {
			c := sample()
			*testkit.PositionNumbers(&c.p)[i] = n
			callAll(c.r, c.p, tried()...)
			for j, spot := range testkit.PositionNumbers(&c.p) {
				*spot = extremes[(i+j)%len(extremes)]
			}
			callAll(c.r, c.p, tried()...)
		}
	}
}

// TestP1Moves has moves far from all boards, on boards of all sizes.
func TestP1Moves(t *testing.T) {
	for _, c := range all(20) {
		callAll(c.r, c.p, strange()...)
	}
	for w := 1; w <= 8; w++ {
		for h := 1; h <= 8; h++ {
			r := board(w, h, piece('A', slide(7, -7, 7), slide(-7, 7, 7), slide(7, 7, 7), slide(-7, -7, 7), slide(0, 7, 7), slide(7, 0, 7)))
			for cell := range 3 {
				p := api.Position{Cells: slices.Repeat([]int{cell}, w*h), Hands: [2][]int{{1000}, {1000}}, Turn: w % 2}
				callAll(r, p, testkit.Candidates(r)...)
			}
		}
	}
}

func TestP1Lists(t *testing.T) {
	c := sample()
	for r, p := range testkit.Stretched(c.r, c.p) {
		callAll(r, p, tried()...)
	}
}

// wholeText tells all that rules and a position have in their memory.
func wholeText(c pair) string {
	return fmt.Sprint(testkit.WholeRules(c.r), testkit.WholePosition(c.p))
}

func roomy(c pair) pair {
	return pair{testkit.RoomyRules(c.r), testkit.RoomyPosition(c.p)}
}

func TestP2ArgumentsStay(t *testing.T) {
	l := all(300)
	wrongRules, wrongPosition := sample(), sample()
	wrongRules.r.Repeat = 1
	wrongPosition.p.Quiet = 201
	for _, c := range append(l, wrongRules, wrongPosition) {
		c = roomy(c)
		legal, _ := moves.All(c.r, c.p)
		before := wholeText(c)
		callAll(c.r, c.p, append(tried(), legal...)...)
		if after := wholeText(c); after != before {
			t.Errorf("the arguments became %s, want %s", after, before)
		}
	}
}

// afterAll returns the positions after some moves, each in memory of its own.
func afterAll(c pair, l []api.Move) []api.Position {
	var after []api.Position
	for _, m := range l {
		q, _ := moves.After(c.r, c.p, m)
		after = append(after, q)
	}
	return after
}

// TestP2ResultsAreNew changes results, and looks whether the arguments, or results of equal calls, have changed with them.
func TestP2ResultsAreNew(t *testing.T) {
	for _, c := range all(200) {
		c = roomy(c)
		before := wholeText(c)
		spoiledMoves, _ := moves.All(c.r, c.p)
		keptMoves, _ := moves.All(c.r, c.p)
		spoiled, kept := afterAll(c, keptMoves), afterAll(c, keptMoves)
		want := fmt.Sprint(spoiledMoves, spoiled)
		testkit.Spoil(spoiledMoves, api.Move{From: -77, To: -77, Piece: -77})
		for _, q := range spoiled {
			testkit.SpoilPosition(q)
		}
		if after := wholeText(c); after != before {
			t.Errorf("after a change of the results the arguments are %s, want %s", after, before)
		}
		if got := fmt.Sprint(keptMoves, kept); got != want {
			t.Errorf("after a change of the results those of other calls are %s, want %s", got, want)
		}
		again, _ := moves.All(c.r, c.p)
		if got := fmt.Sprint(again, afterAll(c, again)); got != want {
			t.Errorf("after a change of the results equal calls have %s, want %s", got, want)
		}
	}
}

// TestP2ArgumentsAreNotRetained changes the arguments after the calls.
func TestP2ArgumentsAreNotRetained(t *testing.T) {
	for _, c := range all(200) {
		spoiled := roomy(c)
		l, _ := moves.All(spoiled.r, spoiled.p)
		after := afterAll(spoiled, l)
		want := fmt.Sprint(l, after)
		testkit.SpoilRules(spoiled.r)
		testkit.SpoilPosition(spoiled.p)
		again, _ := moves.All(c.r, c.p)
		if got := fmt.Sprint(l, after); got != want || fmt.Sprint(again, afterAll(c, again)) != want {
			t.Errorf("after a change of the arguments: %s, want %s", got, want)
		}
	}
}

// TestP2ResultsAreApart spoils one list of a result, together with its unused capacity, and looks at the others. The lists of the argument share their memory.
func TestP2ResultsAreApart(t *testing.T) {
	r := board(3, 1, piece('A', step(1, 0)), piece('B'), piece('C'))
	shared := make([]int, 3, 16)
	shared[0] = 1
	for _, m := range []api.Move{{From: -1, To: 1, Piece: 0}, {From: 0, To: 1, Piece: 0}} {
		for list := range 3 {
			q, err := moves.After(r, api.Position{Cells: shared, Hands: [2][]int{shared, shared}}, m)
			if err != api.OK {
				t.Fatalf("After of %v: %d", m, err)
			}
			lists := [][]int{q.Cells, q.Hands[0], q.Hands[1]}
			testkit.Spoil(lists[list], 9)
			for other, l := range lists {
				if other != list && slices.Contains(testkit.Whole(l), 9) {
					t.Errorf("the lists %d and %d share memory after %v", list, other, m)
				}
			}
		}
	}
}

// TestP2Deterministic compares equal calls with others between them.
func TestP2Deterministic(t *testing.T) {
	call := func(c pair) string {
		l, err := moves.All(c.r, c.p)
		is, wrong := moves.Legal(c.r, c.p, api.Move{From: -1, To: 0, Piece: 0})
		return fmt.Sprint(l, err, is, wrong, afterAll(c, append(l, tried()...)))
	}
	l := all(200)
	var before []string
	for _, c := range l {
		before = append(before, call(c))
	}
	for _, i := range rand.New(rand.NewPCG(6, 2)).Perm(len(l)) {
		if got := call(l[i]); got != before[i] {
			t.Errorf("equal calls for %+v: %s, then %s", l[i], before[i], got)
		}
	}
}
