package board_test

import (
	"fmt"
	"math/rand/v2"
	"slices"
	"testing"

	"gamehall/api"
	"gamehall/board"
	"gamehall/moves"
	"gamehall/testkit"
)

// The general rules of the document, as far as they concern package board.

// tried returns moves that are legal in the sample, and others.
func tried() []api.Move {
	return []api.Move{put(0), {From: 1, To: 0, Piece: 1}, {From: 2, To: 4}, {From: 6, To: 10, Piece: 1}, {From: 6, To: 10}, {From: -2, To: -1, Piece: -1}, {From: 12, To: 12, Piece: 2}}
}

// callMethods calls all methods: with some moves, and then until all moves that were made are taken back, and once more.
func callMethods(b *board.Board, l ...api.Move) {
	for _, m := range l {
		b.Do(m)
		view(b)
	}
	for range b.Len() + 1 {
		b.Undo()
		view(b)
	}
}

// callAll calls New and, if there is a board, all its methods.
func callAll(r api.Rules, p api.Position, l ...api.Move) {
	if b, err := board.New(r, p); err == api.OK {
		callMethods(b, l...)
	}
}

// TestP1Numbers needs no conditions: a panic, or a call without an end, fails it.
func TestP1Numbers(t *testing.T) {
	callAll(api.Rules{}, api.Position{}, tried()...)
	sampleRules, samplePosition := sample()
	for r, p := range testkit.Changed(sampleRules, samplePosition, extremes) {
		callAll(r, p, tried()...)
		callAll(r, samplePosition, tried()...)
		callAll(sampleRules, p, tried()...)
	}
}

func TestP1Moves(t *testing.T) {
	strange := testkit.MovesOf([]int{extremes[0], -2, -1, 0, 1, 6, 63, 64, extremes[len(extremes)-1]})
	for r, p := range games(10) {
		callAll(r, p, strange...)
	}
}

// TestP1Boards has boards of all sizes with pieces that move everywhere, and plays on until the games are over, or full.
func TestP1Boards(t *testing.T) {
	random := rand.New(rand.NewPCG(9, 1))
	for _, size := range testkit.Boards() {
		r := api.Rules{Name: "ALL", Width: size[0], Height: size[1], Pieces: []api.RulePiece{{Letter: 'A'}}, Start: make([]int, size[0]*size[1]), Keeps: true}
		for _, dx := range []int{-1, 0, 1} {
			for _, dy := range []int{-1, 1} {
				r.Pieces[0].Ways = append(r.Pieces[0].Ways, api.RuleWay{DX: dx, DY: dy, Most: 7, Take: api.TakeMay})
			}
		}
		p := api.Position{Cells: make([]int, len(r.Start)), Hands: [2][]int{{2}, {2}}}
		b := open(t, r, p)
		for l := b.Moves(); len(l) > 0 && b.Len() < 400; l = b.Moves() {
			do(t, b, l[random.IntN(len(l))])
		}
		last := b.Position()
		expect(t, b, r, last, b.Len())
		undo(t, b, b.Len())
		expect(t, b, r, p, 0)
	}
}

// TestP1NotFromNew has a board that New has not made: it has no game, but it is not nil.
func TestP1NotFromNew(t *testing.T) {
	callMethods(new(board.Board), tried()...)
}

func TestP1Lists(t *testing.T) {
	sampleRules, samplePosition := sample()
	for r, p := range testkit.Stretched(sampleRules, samplePosition) {
		callAll(r, p, tried()...)
	}
}

// TestP2ArgumentsStay looks at the unused capacity of the arguments, too.
func TestP2ArgumentsStay(t *testing.T) {
	test := func(r api.Rules, p api.Position) {
		r, p = testkit.RoomyRules(r), testkit.RoomyPosition(p)
		before := fmt.Sprint(testkit.WholeRules(r), testkit.WholePosition(p))
		legal, _ := moves.All(r, p)
		callAll(r, p, append(tried(), legal...)...)
		if after := fmt.Sprint(testkit.WholeRules(r), testkit.WholePosition(p)); after != before {
			t.Errorf("the arguments became %s, want %s", after, before)
		}
	}
	for r, p := range games(100) {
		test(r, p)
	}
	r, p := sample()
	for _, w := range testkit.Wrongs(r, p) {
		test(w.Rules, w.Position)
	}
}

// play makes up to so many legal moves and takes back some of them, and tells what the board is like meanwhile.
func play(b *board.Board, choose func(n int) int, n int) string {
	s := view(b)
	for range n {
		if l := b.Moves(); len(l) > 0 && choose(4) > 0 {
			s += fmt.Sprint(b.Do(l[choose(len(l))]), view(b))
		} else {
			s += fmt.Sprint(b.Undo(), view(b))
		}
	}
	return s
}

// TestP2ArgumentsAreNotRetained changes the arguments after New, and at some time later.
func TestP2ArgumentsAreNotRetained(t *testing.T) {
	for r, p := range games(200) {
		for _, later := range []int{0, 7} {
			kept, spoiled := rand.New(rand.NewPCG(9, 2)), rand.New(rand.NewPCG(9, 2))
			b := open(t, r, p)
			want := play(b, kept.IntN, later) + play(b, kept.IntN, 20)
			spoiledRules, spoiledPosition := testkit.RoomyRules(r), testkit.RoomyPosition(p)
			c := open(t, spoiledRules, spoiledPosition)
			got := play(c, spoiled.IntN, later)
			testkit.SpoilRules(spoiledRules)
			testkit.SpoilPosition(spoiledPosition)
			if got += play(c, spoiled.IntN, 20); got != want {
				t.Fatalf("after a change of the arguments: %s, want %s", got, want)
			}
		}
	}
}

// TestP2ResultsAreNew changes results at each position of a game, and looks whether the board, or other results, have changed with them.
func TestP2ResultsAreNew(t *testing.T) {
	random := rand.New(rand.NewPCG(9, 3))
	for r, p := range games(100) {
		b := open(t, r, p)
		for range 20 {
			kept, legal := b.Position(), b.Moves()
			want, before := fmt.Sprint(kept, legal), view(b)
			testkit.SpoilPosition(b.Position())
			testkit.Spoil(b.Moves(), api.Move{From: -77, To: -77, Piece: -77})
			if got := fmt.Sprint(kept, legal); got != want {
				t.Fatalf("after a change of results others are %s, want %s", got, want)
			}
			if after := view(b); after != before {
				t.Fatalf("after a change of results the board has %s, want %s", after, before)
			}
			play(b, random.IntN, 2)
			if got := fmt.Sprint(kept, legal); got != want {
				t.Fatalf("after moves, results from before them are %s, want %s", got, want)
			}
		}
	}
}

// TestP2ResultsOfAllMoves takes back a whole game whose positions were changed when they were results.
func TestP2ResultsOfAllMoves(t *testing.T) {
	b, views := walked(t, 60)
	for i := len(views) - 1; i >= 0; i-- {
		testkit.SpoilPosition(b.Position())
		undo(t, b, 1)
		testkit.SpoilPosition(b.Position())
		if got := view(b); got != views[i] {
			t.Fatalf("taken back to %d moves: %s, want %s", i, got, views[i])
		}
	}
}

// TestP2ResultsAreApart spoils one list of a position, together with its unused capacity, and looks at the others. The lists of the argument share their memory.
func TestP2ResultsAreApart(t *testing.T) {
	r := api.Rules{Name: "B", Width: 3, Height: 1, Pieces: []api.RulePiece{{Letter: 'A', Ways: []api.RuleWay{{DX: 1, Most: 1}}}, {Letter: 'B'}, {Letter: 'C'}}, Start: make([]int, 3)}
	shared := make([]int, 3, 16)
	shared[0] = 1
	for n, m := range []api.Move{{From: -1, To: 1}, {From: 0, To: 1}} {
		for list := range 3 {
			b := open(t, r, api.Position{Cells: shared, Hands: [2][]int{shared, shared}})
			if n > 0 {
				do(t, b, m)
			}
			p := b.Position()
			lists := [][]int{p.Cells, p.Hands[0], p.Hands[1]}
			testkit.Spoil(lists[list], 9)
			for other, l := range lists {
				if other != list && slices.Contains(testkit.Whole(l), 9) {
					t.Errorf("the lists %d and %d share memory", list, other)
				}
			}
		}
	}
}

// TestP2BoardsAreApart has two boards from the same arguments, of which only one makes moves.
func TestP2BoardsAreApart(t *testing.T) {
	random := rand.New(rand.NewPCG(9, 4))
	for r, p := range games(200) {
		a, b := open(t, r, p), open(t, r, p)
		play(a, random.IntN, 20)
		expect(t, b, r, p, 0)
		undo(t, a, a.Len())
		play(b, random.IntN, 20)
		expect(t, a, r, p, 0)
	}
}

// TestP2Deterministic compares equal games on boards with other games between them.
func TestP2Deterministic(t *testing.T) {
	type pair struct {
		r api.Rules
		p api.Position
	}
	var l []pair
	var before []string
	game := func(r api.Rules, p api.Position, seed int) string {
		return play(open(t, r, p), rand.New(rand.NewPCG(9, uint64(seed))).IntN, 30)
	}
	for r, p := range games(200) {
		before = append(before, game(r, p, len(l)))
		l = append(l, pair{r, p})
	}
	for _, i := range rand.New(rand.NewPCG(9, 2)).Perm(len(l)) {
		if got := game(l[i].r, l[i].p, i); got != before[i] {
			t.Errorf("equal games of %+v: %s, then %s", l[i], before[i], got)
		}
	}
}
