package plain_test

import (
	"fmt"
	"math/rand/v2"
	"slices"
	"testing"

	"gamehall/api"
	"gamehall/place"
	"gamehall/plain"
	"gamehall/testkit"
)

// The general rules of the document, as far as they concern package plain.

// tried returns moves that can be played in the sample one after the other, with others between them.
func tried() []api.Move {
	return []api.Move{{From: -1, To: 3, Piece: 1}, {From: 1, To: 8}, {From: -1, To: 5, Piece: 1}, {From: 3, To: 6, Piece: 1}, {From: 3, To: 6}, {From: 7, To: 6}, {From: -2, To: -1, Piece: -1}, {From: 9, To: 9, Piece: 2}}
}

// callMethods calls all methods: with some moves, and then until all moves that were played are taken back, and once more.
func callMethods(g *plain.Game, l ...api.Move) {
	for _, m := range l {
		g.Play(m)
		view(g)
	}
	for range len(g.Moves()) + 1 {
		g.Back()
		view(g)
	}
}

// callAll calls New and, if there is a game, all its methods; and Run with no moves, with all of them, and with each one alone.
func callAll(r api.Rules, l ...api.Move) {
	if g, err := plain.New(r); err == api.OK {
		callMethods(g, l...)
	}
	plain.Run(r, nil)
	plain.Run(r, l)
	for i := range l {
		plain.Run(r, l[i:i+1])
	}
}

// TestP1Numbers needs no conditions: a panic, or a call without an end, fails it.
func TestP1Numbers(t *testing.T) {
	callAll(api.Rules{}, tried()...)
	p, _ := place.Begin(sample())
	for r := range testkit.Changed(sample(), p, extremes) {
		callAll(r, tried()...)
	}
}

func TestP1Moves(t *testing.T) {
	strange := testkit.MovesOf([]int{extremes[0], -2, -1, 0, 1, 6, 63, 64, extremes[len(extremes)-1]})
	for r := range games(10) {
		callAll(r, strange...)
	}
}

func TestP1Lists(t *testing.T) {
	p, _ := place.Begin(sample())
	for r := range testkit.Stretched(sample(), p) {
		callAll(r, tried()...)
	}
}

// TestP1LongRun has many more moves than a game can have.
func TestP1LongRun(t *testing.T) {
	r := testkit.Steps()
	r.Repeat = 0
	var l []api.Move
	for n := range 1 << 18 {
		l = append(l, testkit.ToAndFro(n))
	}
	refuseRun(t, r, l, api.ErrFull)
}

// TestP1Boards has boards of all sizes with pieces that move everywhere, and plays on until the games are over, or full.
func TestP1Boards(t *testing.T) {
	random := rand.New(rand.NewPCG(10, 1))
	for _, size := range testkit.Boards() {
		r := api.Rules{Name: "ALL", Width: size[0], Height: size[1], Pieces: []api.RulePiece{{Letter: 'A', Hand: 2}}, Start: make([]int, size[0]*size[1]), Keeps: true, Repeat: 5}
		for _, dx := range []int{-1, 0, 1} {
			for _, dy := range []int{-1, 1} {
				r.Pieces[0].Ways = append(r.Pieces[0].Ways, api.RuleWay{DX: dx, DY: dy, Most: 7, Take: api.TakeMay})
			}
		}
		g, s := begin(t, r), &slowGame{r: r}
		for g.Result() == api.Open && len(s.l) < 400 {
			l := legalOf(r, g)
			m := l[random.IntN(len(l))]
			play(t, g, m)
			s.l = append(s.l, m)
		}
		expect(t, g, s)
		back(t, g, len(s.l))
		expect(t, g, &slowGame{r: r})
	}
}

// TestP1NotFromNew has a game that New has not made: it has no rules, but it is not nil.
func TestP1NotFromNew(t *testing.T) {
	callMethods(new(plain.Game), tried()...)
}

// TestP2ArgumentsStay looks at the unused capacity of the arguments, too.
func TestP2ArgumentsStay(t *testing.T) {
	test := func(r api.Rules) {
		r = testkit.RoomyRules(r)
		var l []api.Move
		if g, err := plain.New(r); err == api.OK {
			walk(g, r, rand.New(rand.NewPCG(10, 2)).IntN, 30)
			l = g.Moves()
		}
		for _, n := range []int{0, len(l) / 2, len(l)} {
			list := testkit.Roomy(append(slices.Clone(l[:n]), tried()...), api.Move{From: 66})
			before := fmt.Sprint(testkit.WholeRules(r), testkit.Whole(list))
			callAll(r, list...)
			if after := fmt.Sprint(testkit.WholeRules(r), testkit.Whole(list)); after != before {
				t.Errorf("the arguments became %s, want %s", after, before)
			}
		}
	}
	for r := range games(100) {
		test(r)
	}
	p, _ := place.Begin(sample())
	for _, w := range testkit.Wrongs(sample(), p) {
		test(w.Rules)
	}
}

// walk plays up to so many legal moves and takes back some of them, and tells what the game is like meanwhile.
func walk(g *plain.Game, r api.Rules, choose func(n int) int, n int) string {
	s := view(g)
	for range n {
		if l := legalOf(r, g); len(l) > 0 && choose(4) > 0 {
			s += fmt.Sprint(g.Play(l[choose(len(l))]), view(g))
		} else {
			s += fmt.Sprint(g.Back(), view(g))
		}
	}
	return s
}

// TestP2ArgumentsAreNotRetained changes the arguments after New, and at some time later.
func TestP2ArgumentsAreNotRetained(t *testing.T) {
	for r := range games(200) {
		for _, later := range []int{0, 7} {
			kept, spoiled := rand.New(rand.NewPCG(10, 3)), rand.New(rand.NewPCG(10, 3))
			g := begin(t, r)
			want := walk(g, r, kept.IntN, later) + walk(g, r, kept.IntN, 20)
			spoiledRules := testkit.RoomyRules(r)
			h := begin(t, spoiledRules)
			got := walk(h, r, spoiled.IntN, later)
			testkit.SpoilRules(spoiledRules)
			if got += walk(h, r, spoiled.IntN, 20); got != want {
				t.Fatalf("after a change of the arguments: %s, want %s", got, want)
			}
		}
	}
}

// TestP2RunRetainsNothing changes the arguments of Run after it, and looks at its result; then the other way round.
func TestP2RunRetainsNothing(t *testing.T) {
	for r := range games(200) {
		g := begin(t, r)
		walk(g, r, rand.New(rand.NewPCG(10, 4)).IntN, 20)
		for n := range len(g.Moves()) + 1 {
			l := g.Moves()[:n]
			own := testkit.RoomyRules(r)
			p, _, _ := plain.Run(own, l)
			want := fmt.Sprint(p)
			testkit.SpoilRules(own)
			testkit.Spoil(l, api.Move{From: -77, To: -77, Piece: -77})
			if got := fmt.Sprint(p); got != want {
				t.Fatalf("after a change of the arguments Run has %s, want %s", got, want)
			}
			before := fmt.Sprint(testkit.WholeRules(r))
			p, _, _ = plain.Run(r, g.Moves()[:n])
			testkit.SpoilPosition(p)
			if after := fmt.Sprint(testkit.WholeRules(r)); after != before {
				t.Fatalf("after a change of the result of Run the rules are %s, want %s", after, before)
			}
		}
	}
}

// TestP2ResultsAreNew changes results at each position of a game, and looks whether the game, or other results, have changed with them.
func TestP2ResultsAreNew(t *testing.T) {
	random := rand.New(rand.NewPCG(10, 5))
	for r := range games(100) {
		g := begin(t, r)
		for range 20 {
			kept, played := g.Position(), g.Moves()
			want, before := fmt.Sprint(kept, played), view(g)
			testkit.SpoilPosition(g.Position())
			testkit.Spoil(g.Moves(), api.Move{From: -77, To: -77, Piece: -77})
			if got := fmt.Sprint(kept, played); got != want {
				t.Fatalf("after a change of results others are %s, want %s", got, want)
			}
			if after := view(g); after != before {
				t.Fatalf("after a change of results the game has %s, want %s", after, before)
			}
			walk(g, r, random.IntN, 2)
			if got := fmt.Sprint(kept, played); got != want {
				t.Fatalf("after moves, results from before them are %s, want %s", got, want)
			}
		}
	}
}

// TestP2ResultsOfAllMoves takes back a whole game whose positions and moves were changed when they were results.
func TestP2ResultsOfAllMoves(t *testing.T) {
	r := testkit.Steps()
	r.Repeat = 0
	g := begin(t, r)
	spoil := func() {
		testkit.SpoilPosition(g.Position())
		testkit.Spoil(g.Moves(), api.Move{From: -77, To: -77, Piece: -77})
	}
	var views []string
	for n := range 60 {
		views = append(views, view(g))
		spoil()
		play(t, g, testkit.ToAndFro(n))
	}
	for n := 59; n >= 0; n-- {
		spoil()
		back(t, g, 1)
		if got := view(g); got != views[n] {
			t.Fatalf("taken back to %d moves: %s, want %s", n, got, views[n])
		}
	}
}

// TestP2ResultsAreApart spoils one list of a position, together with its unused capacity, and looks at the others.
func TestP2ResultsAreApart(t *testing.T) {
	r := sample()
	l := []api.Move{{From: -1, To: 3, Piece: 1}, {From: -1, To: 5, Piece: 1}, {From: 3, To: 6}}
	for n := range len(l) + 1 {
		g := begin(t, r)
		play(t, g, l[:n]...)
		for list := range 3 {
			run, _, _ := plain.Run(r, l[:n])
			for _, p := range []api.Position{g.Position(), run} {
				lists := [][]int{p.Cells, p.Hands[0], p.Hands[1]}
				testkit.Spoil(lists[list], 99)
				for other, l := range lists {
					if other != list && slices.Contains(testkit.Whole(l), 99) {
						t.Errorf("after %d moves the lists %d and %d share memory", n, list, other)
					}
				}
			}
		}
	}
}

// TestP2GamesAreApart has two games by the same rules, of which only one is played.
func TestP2GamesAreApart(t *testing.T) {
	random := rand.New(rand.NewPCG(10, 6))
	for r := range games(200) {
		g, h := begin(t, r), begin(t, r)
		walk(g, r, random.IntN, 20)
		expect(t, h, &slowGame{r: r})
		back(t, g, len(g.Moves()))
		walk(h, r, random.IntN, 20)
		expect(t, g, &slowGame{r: r})
	}
}

// TestP2Deterministic compares equal games with other games between them.
func TestP2Deterministic(t *testing.T) {
	var l []api.Rules
	var before []string
	game := func(r api.Rules, seed int) string {
		g := begin(t, r)
		s := walk(g, r, rand.New(rand.NewPCG(10, uint64(seed))).IntN, 30)
		return s + fmt.Sprint(plain.Run(r, g.Moves()))
	}
	for r := range games(200) {
		before = append(before, game(r, len(l)))
		l = append(l, r)
	}
	for _, i := range rand.New(rand.NewPCG(10, 7)).Perm(len(l)) {
		if got := game(l[i], i); got != before[i] {
			t.Errorf("equal games of %+v: %s, then %s", l[i], before[i], got)
		}
	}
}
