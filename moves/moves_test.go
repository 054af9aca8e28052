package moves_test

import (
	"fmt"
	"math"
	"math/rand/v2"
	"slices"
	"strings"
	"testing"

	"gamehall/api"
	"gamehall/moves"
	"gamehall/place"
	"gamehall/rules"
	"gamehall/testkit"
)

// The tests hold package moves against positions and moves that are written out, against the numbers of moves that the pieces of chess have, and against slow definitions: a search for a way and a number of steps that make a move legal, and a position put together square by square.

// extremes are ints at and beyond all the bounds that occur in the chapter.
var extremes = []int{math.MinInt, math.MinInt + 1, -1000, -64, -8, -2, -1, 0, 1, 2, 3, 5, 6, 7, 8, 63, 64, 65, 199, 200, 201, 999, 1000, 1001, 1 << 32, math.MaxInt - 1, math.MaxInt}

// board returns rules with an empty board and types of pieces.
func board(w, h int, pieces ...api.RulePiece) api.Rules {
	return api.Rules{Name: "B", Width: w, Height: h, Pieces: pieces, Start: make([]int, w*h)}
}

// piece returns a type that does not change.
func piece(letter byte, ways ...api.RuleWay) api.RulePiece {
	return api.RulePiece{Letter: letter, Ways: ways}
}

// step returns a way of one step that may take.
func step(dx, dy int) api.RuleWay {
	return slide(dx, dy, 1)
}

// slide returns a way of up to so many steps that may take.
func slide(dx, dy, most int) api.RuleWay {
	return api.RuleWay{DX: dx, DY: dy, Most: most, Take: api.TakeMay}
}

// read returns the position with a text.
func read(t *testing.T, r api.Rules, s string) api.Position {
	t.Helper()
	p, err := place.Read(r, s)
	if err != api.OK {
		t.Fatalf("the text %q of the test has no position: %d, for rules with %d", s, err, rules.Check(r))
	}
	return p
}

// show writes moves with the letters of their types, and an @ for the hand.
func show(r api.Rules, l []api.Move) string {
	var words []string
	for _, m := range l {
		word := fmt.Sprintf("%d-%d%c", m.From, m.To, r.Pieces[m.Piece].Letter)
		if m.From == -1 {
			word = fmt.Sprintf("@%d%c", m.To, r.Pieces[m.Piece].Letter)
		}
		words = append(words, word)
	}
	return strings.Join(words, " ")
}

// expect holds All against moves that are written out.
func expect(t *testing.T, r api.Rules, position, want string) {
	t.Helper()
	l, err := moves.All(r, read(t, r, position))
	if got := show(r, l); got != want || err != api.OK {
		t.Errorf("All of %q: %q, %d, want %q", position, got, err, want)
	}
}

// A pair is a position with the rules of its game.
type pair struct {
	r api.Rules
	p api.Position
}

// sample returns rules and a position in which there are moves of all kinds, with numbers off their bounds.
func sample() pair {
	r := board(3, 4,
		api.RulePiece{Letter: 'P', Hand: 2, Promote: 3, Ways: []api.RuleWay{{DY: 1, Most: 2, Take: api.TakeNever}, {DX: 1, DY: 1, Most: 1, Take: api.TakeMust}, {DX: -1, DY: 1, Most: 1, Take: api.TakeMust}}},
		piece('N', step(1, 2), step(-1, 2), step(2, 1), step(-2, 1)),
		piece('K', slide(1, 0, 2), slide(-1, 0, 2), step(0, -1)))
	r.Falls, r.Keeps, r.Ends, r.Quiet, r.Repeat = true, true, []api.RuleEnd{{Kind: api.EndTake, Piece: 2, Count: 1}}, 50, 3
	return pair{r, api.Position{
		Cells: []int{
			1, 5, 0,
			0, 2, 1,
			6, 1, 4,
			0, 0, 2,
		},
		Hands: [2][]int{{1, 10, 0}, {0, 3, 999}},
		Turn:  0,
		Quiet: 20,
	}}
}

const sampleMoves = "@2P @2N @3P @3N @10P @10N 0-3P 0-4P 1-2K 7-10K 7-11K"

// all returns the sample and so many positions of all kinds, the same for each call.
func all(n int) []pair {
	l := []pair{sample()}
	random := rand.New(rand.NewPCG(6, 123))
	for range n {
		r, p := testkit.AnyGame(random.IntN)
		l = append(l, pair{r, p})
	}
	return l
}

// equal compares all that positions say; a nil slice is an empty one.
func equal(a, b api.Position) bool {
	return fmt.Sprint(a) == fmt.Sprint(b)
}

func TestSample(t *testing.T) {
	c := sample()
	l, err := moves.All(c.r, c.p)
	if got := show(c.r, l); got != sampleMoves || err != api.OK {
		t.Errorf("All of the sample: %q, %d, want %q", got, err, sampleMoves)
	}
}

// try has all functions with rules and a position whose error is known.
func try(t *testing.T, r api.Rules, p api.Position, want api.Errno) {
	t.Helper()
	if l, err := moves.All(r, p); len(l) != 0 || err != want {
		t.Errorf("All(%+v, %+v): %v, %d, want nothing, %d", r, p, l, err, want)
	}
	for _, m := range []api.Move{{From: -1, To: 2, Piece: 0}, {From: 0, To: 3, Piece: 0}, {From: -2, To: 99, Piece: 7}, {}} {
		if is, err := moves.Legal(r, p, m); is || err != want {
			t.Errorf("Legal(%+v, %+v, %v): %t, %d, want false, %d", r, p, m, is, err, want)
		}
		if q, err := moves.After(r, p, m); !equal(q, api.Position{}) || err != want {
			t.Errorf("After(%+v, %+v, %v): %+v, %d, want nothing, %d", r, p, m, q, err, want)
		}
	}
}

// TestP118WrongRules has wrong rules, with a position that is right and with others.
func TestP118WrongRules(t *testing.T) {
	seen := map[api.Errno]int{}
	test := func(change func(r *api.Rules)) {
		c := sample()
		change(&c.r)
		want := rules.Check(c.r)
		seen[want]++
		if want == api.OK {
			return
		}
		wrong := sample().p
		wrong.Turn = 2
		for _, p := range []api.Position{c.p, {}, {Cells: c.p.Cells}, wrong} {
			try(t, c.r, p, want)
		}
	}
	for _, change := range []func(r *api.Rules){
		func(r *api.Rules) { *r = api.Rules{} },
		func(r *api.Rules) { r.Name = "a" },
		func(r *api.Rules) { r.Pieces = nil },
		func(r *api.Rules) { r.Pieces = slices.Repeat(r.Pieces, 3) },
		func(r *api.Rules) { r.Pieces[2].Letter = 'P' },
		func(r *api.Rules) { r.Start = nil },
		func(r *api.Rules) { r.Ends = slices.Repeat(r.Ends, 7) },
	} {
		test(change)
	}
	c := sample()
	for i := range testkit.RuleNumbers(&c.r) {
		for _, n := range extremes {
			test(func(r *api.Rules) { *testkit.RuleNumbers(r)[i] = n })
		}
	}
	for _, err := range []api.Errno{api.ErrName, api.ErrRange, api.ErrNone, api.ErrLarge, api.ErrTwice, api.ErrForm, api.ErrArg} {
		if seen[err] == 0 {
			t.Errorf("the error %d did not come up", err)
		}
	}
}

// TestP118WrongPositions has wrong positions of right rules.
func TestP118WrongPositions(t *testing.T) {
	for _, change := range []func(p *api.Position){
		func(p *api.Position) { *p = api.Position{} },
		func(p *api.Position) { p.Cells = nil },
		func(p *api.Position) { p.Cells = p.Cells[:11] },
		func(p *api.Position) { p.Cells = append(p.Cells, 0) },
		func(p *api.Position) { p.Hands[0] = nil },
		func(p *api.Position) { p.Hands[1] = p.Hands[1][:2] },
		func(p *api.Position) { p.Hands[0] = append(p.Hands[0], 0) },
		func(p *api.Position) { p.Turn, p.Hands[1] = 2, nil },
	} {
		c := sample()
		change(&c.p)
		try(t, c.r, c.p, api.ErrForm)
	}
	c, wrong := sample(), 0
	for i := range testkit.PositionNumbers(&c.p) {
		for _, n := range extremes {
			c := sample()
			*testkit.PositionNumbers(&c.p)[i] = n
			if err := place.Check(c.r, c.p); err != api.OK {
				try(t, c.r, c.p, api.ErrRange)
				wrong++
			}
		}
	}
	if wrong < 200 {
		t.Errorf("only %d positions were wrong", wrong)
	}
}

func TestP123Put(t *testing.T) {
	a := board(1, 2, piece('A'))
	expect(t, a, "1/1 A1 - 1 0", "@0A @1A") // the example of P124
	expect(t, a, "1/1 - A1 1 0", "")
	expect(t, a, "1/1 A1 - 2 0", "")
	expect(t, a, "1/1 - A1 2 0", "@0A @1A")
	expect(t, a, "1/1 A1000 - 1 0", "@0A @1A")
	expect(t, a, "1/A A1 A1 1 0", "@1A")
	expect(t, a, "1/a A1 A1 1 0", "@1A")
	expect(t, a, "A/1 A1 A1 1 0", "@0A")
	expect(t, a, "A/a A1 A1 1 0", "")
	b := board(2, 2, piece('B'), piece('C'), piece('A'))
	expect(t, b, "2/2 B1C1A1 - 1 0", "@0B @0C @0A @1B @1C @1A @2B @2C @2A @3B @3C @3A")
	expect(t, b, "1c/B1 B2A7 C1 1 0", "@1B @1A @2B @2A")
	expect(t, b, "1c/B1 B2A7 C1 2 0", "@1C @2C")
	expect(t, b, "1c/B1 B2A7 - 2 0", "")
}

// TestP123PutOnLastRow has types that change when they move to the last row, but not when they are put there.
func TestP123PutOnLastRow(t *testing.T) {
	r := board(1, 2, api.RulePiece{Letter: 'A', Promote: 2}, api.RulePiece{Letter: 'B', Promote: 1})
	expect(t, r, "1/1 A1 - 1 0", "@0A @1A")
	expect(t, r, "1/1 - B1 2 0", "@0B @1B")
	r.Falls = true
	expect(t, r, "1/A A1 B1 1 0", "@1A")
	expect(t, r, "1/1 A1 B1 2 0", "@0B")
}

func TestP123Falls(t *testing.T) {
	r := board(4, 3, piece('A', step(0, 1), step(1, 0)))
	// The columns are empty; have a piece at the bottom; one over a hole, and at the top; one over a hole, and nothing above.
	const position = "2A1/2aa/1A2 A1 A1 1 0"
	expect(t, r, position, "@0A @2A @3A @4A @5A @8A @9A @11A 1-2A 1-5A 10-11A")
	r.Falls = true
	expect(t, r, position, "@0A @2A @3A @5A 1-2A 1-5A 10-11A")
	// The bottom is the bottom for Second, too.
	expect(t, r, "2A1/2aa/1A2 A1 A1 2 0", "@0A @2A @3A @5A 6-2A 7-3A")
	expect(t, r, "1A2/1aA1/1AaA A1 A1 2 0", "@0A @7A @10A 2-3A 5-1A 5-6A")
	expect(t, r, "AaAa/aAaA/AaAa A1 A1 2 0", "1-2A 4-0A 4-5A 6-2A 6-7A 9-5A 9-10A 11-7A")
	expect(t, r, "AAAA/AAAA/AAAA A1 A1 2 0", "")
	high := board(8, 8, piece('A'))
	high.Falls = true
	expect(t, high, "8/a7/A1a5/a1A1a3/A1a1A1a1/a1A1a1A1/A1a1A1a1/aAAaaAAa A1 - 1 0", "@9A @11A @13A @15A @38A @44A @50A @56A")
}

func TestP123WhoMoves(t *testing.T) {
	r := board(3, 1, piece('A', step(1, 0)), piece('B', step(-1, 0)))
	expect(t, r, "AbB - - 1 0", "0-1A 2-1B")
	expect(t, r, "AbB - - 2 0", "1-0B")
	expect(t, r, "1aB - - 2 0", "1-2A")
	expect(t, r, "AB1 - - 1 0", "")
	expect(t, r, "AB1 - - 2 0", "")
	expect(t, r, "1b1 - - 1 0", "")
	expect(t, r, "3 - - 1 0", "")
	most := board(6, 2, piece('A'), piece('B', step(0, 1)), piece('C', step(0, 1)), piece('D', step(0, 1)), piece('E'), piece('F', step(0, 1)))
	expect(t, most, "6/ABCDEF - - 1 0", "1-7B 2-8C 3-9D 5-11F")
	expect(t, most, "abcdef/6 - - 2 0", "7-1B 8-2C 9-3D 11-5F")
}

// TestP123Directions has a piece in the middle of a board of 5 by 5, and each way of one step.
func TestP123Directions(t *testing.T) {
	for dx := -7; dx <= 7; dx++ {
		for dy := -7; dy <= 7; dy++ {
			if dx == 0 && dy == 0 {
				continue
			}
			r := board(5, 5, piece('A', step(dx, dy)))
			first, second := "", ""
			if max(dx, -dx) <= 2 && max(dy, -dy) <= 2 {
				first, second = fmt.Sprintf("12-%dA", 12+dx+5*dy), fmt.Sprintf("12-%dA", 12+dx-5*dy)
			}
			expect(t, r, "5/5/2A2/5/5 - - 1 0", first)
			expect(t, r, "5/5/2a2/5/5 - - 2 0", second)
		}
	}
}

// TestP123Edges has steps that leave the board, some of them to where the numbers are those of squares in other rows.
func TestP123Edges(t *testing.T) {
	r := board(3, 3, piece('A', slide(1, 0, 7)), piece('B', slide(-1, 0, 7)), piece('C', slide(2, -1, 7)), piece('D', slide(-1, 1, 7)), piece('E', slide(0, 1, 7)), piece('F', slide(0, -1, 7)))
	for _, c := range []struct{ position, want string }{
		{"3/2A/3 - - 1 0", ""},
		{"3/A2/3 - - 1 0", "3-4A 3-5A"},
		{"3/B2/3 - - 1 0", ""},
		{"3/2B/3 - - 1 0", "5-3B 5-4B"},
		{"3/1C1/3 - - 1 0", ""},
		{"C2/3/3 - - 1 0", "6-5C"},
		{"c2/3/3 - - 2 0", ""},
		{"3/3/D2 - - 1 0", ""},
		{"3/3/2D - - 1 0", "2-4D 2-6D"},
		{"3/3/E2 - - 1 0", "0-3E 0-6E"},
		{"3/3/e2 - - 2 0", ""},
		{"1E1/3/3 - - 1 0", ""},
		{"1e1/3/3 - - 2 0", "7-1E 7-4E"},
		{"3/3/F2 - - 1 0", ""},
		{"3/3/f2 - - 2 0", "0-3F 0-6F"},
	} {
		expect(t, r, c.position, c.want)
	}
	long := board(8, 2, piece('A', step(7, 0)), piece('B', step(-7, 1)), piece('C', step(6, -1)), piece('D', step(-5, 0)))
	expect(t, long, "8/A7 - - 1 0", "0-7A")
	expect(t, long, "8/7B - - 1 0", "7-8B")
	expect(t, long, "8/1A4B1 - - 1 0", "")
	expect(t, long, "1C6/4D3 - - 1 0", "9-7C")
	expect(t, long, "2C5/5D2 - - 1 0", "5-0D")
}

func TestP123Most(t *testing.T) {
	for most := 1; most <= 7; most++ {
		var first, second []string
		for n := 1; n <= most; n++ {
			first, second = append(first, fmt.Sprintf("0-%dA", n)), append(second, fmt.Sprintf("56-%dA", 56-8*n))
		}
		slices.Reverse(second)
		expect(t, board(8, 1, piece('A', slide(1, 0, most))), "A7 - - 1 0", strings.Join(first, " "))
		expect(t, board(8, 8, piece('A', slide(0, 1, most))), "a7/8/8/8/8/8/8/8 - - 2 0", strings.Join(second, " "))
	}
	r := board(8, 1, piece('A', slide(3, 0, 2)), piece('B', slide(3, 0, 7)), piece('C', slide(-1, 0, 2), slide(1, 0, 3)))
	expect(t, r, "A7 - - 1 0", "0-3A 0-6A")
	expect(t, r, "1B6 - - 1 0", "1-4B 1-7B")
	expect(t, r, "3C4 - - 1 0", "3-1C 3-2C 3-4C 3-5C 3-6C")
}

// TestP123Take has rows with a piece A on their first square, and others in its way.
func TestP123Take(t *testing.T) {
	for _, c := range []struct{ row, never, may, must string }{
		{"A4", "0-1A 0-2A 0-3A 0-4A", "0-1A 0-2A 0-3A 0-4A", ""},
		{"Ab3", "", "0-1A", "0-1A"},
		{"Aba2", "", "0-1A", "0-1A"},
		{"A1b2", "0-1A", "0-1A 0-2A", "0-2A"},
		{"A1bb1", "0-1A", "0-1A 0-2A", "0-2A"},
		{"A1b1a", "0-1A", "0-1A 0-2A", "0-2A"},
		{"A3a", "0-1A 0-2A 0-3A", "0-1A 0-2A 0-3A 0-4A", "0-4A"},
		{"AB3", "", "", ""},
		{"ABb2", "", "", ""},
		{"A1B2", "0-1A", "0-1A", ""},
		{"A1Bb1", "0-1A", "0-1A", ""},
		{"A3B", "0-1A 0-2A 0-3A", "0-1A 0-2A 0-3A", ""},
	} {
		for take, want := range []string{c.never, c.may, c.must} {
			r := board(5, 1, piece('A', api.RuleWay{DX: 1, Most: 7, Take: take}), piece('B'))
			expect(t, r, c.row+" - - 1 0", want)
			// The same with the players exchanged.
			row := strings.Map(func(c rune) rune {
				if c >= 'A' {
					return c ^ ('a' - 'A')
				}
				return c
			}, c.row)
			expect(t, r, row+" - - 2 0", want)
		}
	}
}

// TestP123TakesByOneWay has a type that moves straight on, and takes aside.
func TestP123TakesByOneWay(t *testing.T) {
	r := board(3, 3, piece('P', api.RuleWay{DY: 1, Most: 1, Take: api.TakeNever}, api.RuleWay{DX: 1, DY: 1, Most: 1, Take: api.TakeMust}, api.RuleWay{DX: -1, DY: 1, Most: 1, Take: api.TakeMust}))
	expect(t, r, "3/3/1P1 - - 1 0", "1-4P")
	expect(t, r, "3/ppp/1P1 - - 1 0", "1-3P 1-5P")
	expect(t, r, "3/ppp/1P1 - - 2 0", "3-0P 3-1P 5-1P 5-2P")
	expect(t, r, "3/p1P/1P1 - - 1 0", "1-3P 1-4P 5-8P")
	expect(t, r, "3/p1P/1P1 - - 2 0", "3-0P 3-1P")
}

// TestP123BetweenSteps has pieces beside the squares of the steps, which do not matter.
func TestP123BetweenSteps(t *testing.T) {
	knight := board(5, 5, piece('N', step(1, 2), step(2, 1), step(2, -1), step(1, -2), step(-1, -2), step(-2, -1), step(-2, 1), step(-1, 2)))
	expect(t, knight, "5/1NNN1/1NNN1/1NNN1/5 - - 2 0", "")
	expect(t, knight, "5/1nnn1/1nNn1/1nnn1/5 - - 1 0", "12-1N 12-3N 12-5N 12-9N 12-15N 12-19N 12-21N 12-23N")
	expect(t, knight, "5/1nnn1/1nnn1/1nnn1/1N1N1 - - 1 0", "1-8N 1-10N 1-12N 3-6N 3-12N 3-14N")
	far := board(7, 1, piece('A', slide(2, 0, 3)))
	expect(t, far, "Aa5 - - 1 0", "0-2A 0-4A 0-6A")
	expect(t, far, "A2aaa1 - - 1 0", "0-2A 0-4A")
	expect(t, far, "A1aAa2 - - 1 0", "0-2A 3-5A")
	expect(t, far, "AAAaAaa - - 1 0", "1-3A 4-6A")
}

func TestP123LastRow(t *testing.T) {
	p := api.RulePiece{Letter: 'P', Promote: 2, Ways: []api.RuleWay{slide(0, 1, 2), step(1, 0), step(0, -1)}}
	r := board(2, 3, p, piece('K', step(0, 1), step(1, 0)))
	for _, c := range []struct{ position, want string }{
		{"2/P1/2 - - 1 0", "2-0P 2-3P 2-4K"},
		{"2/p1/2 - - 2 0", "2-0K 2-3P 2-4P"},
		{"2/2/P1 - - 1 0", "0-1P 0-2P 0-4K"},
		{"p1/2/2 - - 2 0", "4-0K 4-2P 4-5P"},
		{"1p/1P/2 - - 1 0", "3-1P 3-5K"},
		{"1P/1p/1P - - 2 0", "3-1K 3-5P"},
		// What moves on the last row, or from there, arrives there, or not.
		{"P1/2/2 - - 1 0", "4-2P 4-5K"},
		{"2/2/p1 - - 2 0", "0-1K 0-2P"},
		// Other types do not change.
		{"2/K1/2 - - 1 0", "2-3K 2-4K"},
		{"2/k1/2 - - 2 0", "2-0K 2-3K"},
	} {
		expect(t, r, c.position, c.want)
	}
	// On a board of one row each square is on the last row of both players.
	low := board(3, 1, p, piece('K'))
	expect(t, low, "P2 - - 1 0", "0-1K")
	expect(t, low, "1p1 - - 2 0", "1-2K")
}

// TestP123ChangesOnce has types that change into themselves, into each other, and into the first and the last one.
func TestP123ChangesOnce(t *testing.T) {
	up := []api.RuleWay{step(0, 1)}
	r := board(6, 3,
		api.RulePiece{Letter: 'F', Promote: 1, Ways: up},
		api.RulePiece{Letter: 'E', Promote: 3, Ways: up},
		api.RulePiece{Letter: 'D', Promote: 2, Ways: up},
		api.RulePiece{Letter: 'C', Promote: 6, Ways: up},
		api.RulePiece{Letter: 'B', Promote: 1, Ways: up},
		api.RulePiece{Letter: 'A', Ways: up})
	expect(t, r, "6/FEDCBA/6 - - 1 0", "6-12F 7-13D 8-14E 9-15A 10-16F 11-17A")
	expect(t, r, "6/fedcba/6 - - 2 0", "6-0F 7-1D 8-2E 9-3A 10-4F 11-5A")
	expect(t, r, "6/6/FEDCBA - - 1 0", "0-6F 1-7E 2-8D 3-9C 4-10B 5-11A")
	expect(t, r, "fedcba/6/6 - - 2 0", "12-6F 13-7E 14-8D 15-9C 16-10B 17-11A")
}

// TestP123GameOver has positions that are over by all conditions: there are moves as before.
func TestP123GameOver(t *testing.T) {
	r := board(3, 1, piece('A', step(1, 0)))
	const position, want = "AAa A1 A1 1 200", "1-2A"
	expect(t, r, position, want)
	for _, e := range []api.RuleEnd{{Kind: api.EndLine, Count: 1}, {Kind: api.EndReach}, {Kind: api.EndTake, Count: 64}} {
		for _, loses := range []bool{false, true} {
			for blocked := api.BlockedLoses; blocked <= api.BlockedDraws; blocked++ {
				e.Loses = loses
				r.Ends, r.Blocked, r.Quiet, r.Repeat = []api.RuleEnd{e}, blocked, 1, 2
				expect(t, r, position, want)
				expect(t, r, "1A1 A1 A1 1 200", "@0A @2A 1-2A")
				expect(t, r, "aaa A1 A1 2 200", "")
			}
		}
	}
}

// TestP123Chess has the numbers of moves that pieces of chess have on all squares of an empty board together, and those of the first two moves of a game.
func TestP123Chess(t *testing.T) {
	rook := []api.RuleWay{slide(1, 0, 7), slide(0, 1, 7), slide(-1, 0, 7), slide(0, -1, 7)}
	bishop := []api.RuleWay{slide(1, 1, 7), slide(-1, 1, 7), slide(-1, -1, 7), slide(1, -1, 7)}
	queen := slices.Concat(rook, bishop)
	king := slices.Clone(queen)
	for i := range king {
		king[i].Most = 1
	}
	knight := []api.RuleWay{step(1, 2), step(2, 1), step(2, -1), step(1, -2), step(-1, -2), step(-2, -1), step(-2, 1), step(-1, 2)}
	pawn := []api.RuleWay{{DY: 1, Most: 2, Take: api.TakeNever}, {DX: 1, DY: 1, Most: 1, Take: api.TakeMust}, {DX: -1, DY: 1, Most: 1, Take: api.TakeMust}}
	r := board(8, 8, api.RulePiece{Letter: 'P', Promote: 5, Ways: pawn}, piece('R', rook...), piece('N', knight...), piece('B', bishop...), piece('Q', queen...), piece('K', king...))
	for kind, want := range []int{8 * (6*2 + 1), 896, 336, 560, 1456, 420} {
		for turn := range 2 {
			sum := 0
			for square := range 64 {
				p := api.Position{Cells: make([]int, 64), Hands: [2][]int{make([]int, 6), make([]int, 6)}, Turn: turn}
				p.Cells[square] = 2*kind + turn + 1
				l, _ := moves.All(r, p)
				sum += len(l)
			}
			if sum != want {
				t.Errorf("%c of player %d has %d moves, want %d", r.Pieces[kind].Letter, turn, sum, want)
			}
		}
	}
	p := read(t, r, "rnbqkbnr/pppppppp/8/8/8/8/PPPPPPPP/RNBQKBNR - - 1 0")
	first, _ := moves.All(r, p)
	sum := 0
	for _, m := range first {
		q, err := moves.After(r, p, m)
		l, _ := moves.All(r, q)
		if err != api.OK || len(l) != 20 {
			t.Errorf("after %v: %d, %d moves", m, err, len(l))
		}
		sum += len(l)
	}
	if len(first) != 20 || sum != 400 {
		t.Errorf("a game begins with %d moves, and then %d, want 20 and 400", len(first), sum)
	}
}

// A point is a square by its column and row.
type point struct{ x, y int }

// A slow has the definitions of the chapter, word by word.
type slow struct {
	pair
	at           []point       // the places of the squares
	cells        map[point]int // what is there
	mine, theirs map[int]bool  // the cells of the player whose turn it is, and of the other one
}

func newSlow(c pair) slow {
	s := slow{c, nil, map[point]int{}, map[int]bool{}, map[int]bool{}}
	for y := range c.r.Height {
		for x := range c.r.Width {
			s.cells[point{x, y}] = c.p.Cells[len(s.at)]
			s.at = append(s.at, point{x, y})
		}
	}
	for kind := range c.r.Pieces {
		cells := []int{2*kind + 1, 2*kind + 2}
		s.mine[cells[c.p.Turn]], s.theirs[cells[1-c.p.Turn]] = true, true
	}
	return s
}

// isLegal reports whether a candidate is legal.
func (s slow) isLegal(m api.Move) bool {
	if m.From == -1 {
		return s.canPut(m)
	}
	return s.canMove(m)
}

func (s slow) canPut(m api.Move) bool {
	to := s.at[m.To]
	for a, cell := range s.cells {
		if s.r.Falls && a.x == to.x && a.y < to.y && cell == 0 {
			return false
		}
	}
	return s.cells[to] == 0 && s.p.Hands[s.p.Turn][m.Piece] >= 1
}

// canMove looks for a way, and a number of its steps, that make a move legal.
func (s slow) canMove(m api.Move) bool {
	cell := s.p.Cells[m.From]
	if !s.mine[cell] {
		return false
	}
	kind := (cell - 1) / 2
	for _, w := range s.r.Pieces[kind].Ways {
		for n := 1; n <= w.Most; n++ {
			if s.after(m.From, w, n) == s.at[m.To] && s.isWay(m, w, n) {
				return m.Piece == s.changed(kind, m.To)
			}
		}
	}
	return false
}

// after returns the place after so many steps.
func (s slow) after(from int, w api.RuleWay, n int) point {
	up := map[int]int{api.First: 1, api.Second: -1}[s.p.Turn]
	return point{s.at[from].x + n*w.DX, s.at[from].y + n*w.DY*up}
}

func (s slow) isWay(m api.Move, w api.RuleWay, n int) bool {
	for k := 1; k < n; k++ {
		if cell, isOn := s.cells[s.after(m.From, w, k)]; !isOn || cell != 0 {
			return false
		}
	}
	last := s.cells[s.at[m.To]]
	return map[int]bool{
		api.TakeNever: last == 0,
		api.TakeMay:   last == 0 || s.theirs[last],
		api.TakeMust:  s.theirs[last],
	}[w.Take]
}

// changed returns the type of a piece that has moved to a square.
func (s slow) changed(kind, to int) int {
	if is, _ := rules.Last(s.r, s.p.Turn, to); is && s.r.Pieces[kind].Promote > 0 {
		return s.r.Pieces[kind].Promote - 1
	}
	return kind
}

// TestP123Slow holds All and Legal against the slow definition, for all candidates.
func TestP123Slow(t *testing.T) {
	seen := map[string]int{}
	for _, c := range all(1000) {
		var want []api.Move
		definition := newSlow(c)
		for _, m := range testkit.Candidates(c.r) {
			is := definition.isLegal(m)
			if got, err := moves.Legal(c.r, c.p, m); got != is || err != api.OK {
				t.Fatalf("Legal(%+v, %+v, %v): %t, %d, want %t", c.r, c.p, m, got, err, is)
			}
			if is {
				want = append(want, m)
				seen[describe(c, m)]++
			}
		}
		if got, err := moves.All(c.r, c.p); !slices.Equal(got, want) || err != api.OK {
			t.Fatalf("All(%+v, %+v): %v, %d, want %v", c.r, c.p, got, err, want)
		}
	}
	for _, kind := range []string{"put", "put and fall", "move", "move and take", "move and change", "move and take and change"} {
		for turn := range 2 {
			if n := seen[fmt.Sprint(turn, kind)]; n < 20 {
				t.Errorf("%s of player %d came up %d times only: %v", kind, turn, n, seen)
			}
		}
	}
}

// describe tells whose move it is, and of which kind.
func describe(c pair, m api.Move) string {
	s := fmt.Sprint(c.p.Turn)
	if m.From == -1 {
		s += "put"
		if c.r.Falls {
			s += " and fall"
		}
		return s
	}
	s += "move"
	if c.p.Cells[m.To] != 0 {
		s += " and take"
	}
	if (c.p.Cells[m.From]-1)/2 != m.Piece {
		s += " and change"
	}
	return s
}

// TestP124Once has ways that reach the same squares, with and without pieces between.
func TestP124Once(t *testing.T) {
	r := board(5, 1,
		piece('A', slide(1, 0, 4), slide(1, 0, 4), slide(2, 0, 2), slide(4, 0, 1)),
		piece('B', slide(4, 0, 1), slide(2, 0, 2), slide(1, 0, 2), slide(1, 0, 3)),
		piece('C', api.RuleWay{DX: 1, Most: 1, Take: api.TakeNever}, api.RuleWay{DX: 1, Most: 1, Take: api.TakeMay}, api.RuleWay{DX: 1, Most: 1, Take: api.TakeMust}))
	expect(t, r, "A4 - - 1 0", "0-1A 0-2A 0-3A 0-4A")
	expect(t, r, "B4 - - 1 0", "0-1B 0-2B 0-3B 0-4B")
	expect(t, r, "Aa3 - - 1 0", "0-1A 0-2A 0-4A")
	expect(t, r, "B1a2 - - 1 0", "0-1B 0-2B 0-4B")
	expect(t, r, "B2a1 - - 1 0", "0-1B 0-2B 0-3B 0-4B")
	expect(t, r, "BBBb1 - - 1 0", "0-4B 1-3B 2-3B 2-4B")
	expect(t, r, "C4 - - 1 0", "0-1C")
	expect(t, r, "Ca3 - - 1 0", "0-1C")
	// Pieces of one type that reach the same square make different moves.
	expect(t, r, "C4 C1 - 1 0", "@1C @2C @3C @4C 0-1C")
	king := board(3, 3, piece('K', slide(1, 0, 1), slide(1, 1, 1), slide(0, 1, 1), slide(-1, 1, 1), slide(-1, 0, 1), slide(-1, -1, 1), slide(0, -1, 1), slide(1, -1, 1)))
	expect(t, king, "3/1K1/3 - - 1 0", "4-0K 4-1K 4-2K 4-3K 4-5K 4-6K 4-7K 4-8K")
	expect(t, king, "3/1k1/3 - - 2 0", "4-0K 4-1K 4-2K 4-3K 4-5K 4-6K 4-7K 4-8K")
	expect(t, king, "2K/3/K2 - K1 1 0", "0-1K 0-3K 0-4K 8-4K 8-5K 8-7K")
}

// TestP124Order compares neighbours; the slow test has the same order, but fewer moves.
func TestP124Order(t *testing.T) {
	for _, c := range all(1000) {
		l, err := moves.All(c.r, c.p)
		for i, m := range l[min(1, len(l)):] {
			before := l[i]
			ordered := before.From < m.From || before.From == m.From && (before.To < m.To || before.To == m.To && before.Piece < m.Piece)
			if !ordered || err != api.OK {
				t.Errorf("All(%+v, %+v): %v before %v", c.r, c.p, before, m)
			}
		}
	}
}

// strange returns moves that are far from all boards and types.
func strange() []api.Move {
	return testkit.MovesOf(extremes)
}

// TestP124Strange has moves with squares and types that the game does not have.
func TestP124Strange(t *testing.T) {
	small := pair{board(1, 1, piece('A', step(1, 0))), api.Position{Cells: []int{0}, Hands: [2][]int{{1}, {0}}}}
	large := pair{board(8, 8, piece('A', step(1, 0))), api.Position{Cells: slices.Repeat([]int{1, 2, 0, 1}, 16), Hands: [2][]int{{1}, {1}}, Turn: 1}}
	for _, c := range []pair{sample(), small, large} {
		l, _ := moves.All(c.r, c.p)
		for _, m := range strange() {
			want := slices.Contains(l, m)
			if got, err := moves.Legal(c.r, c.p, m); got != want || err != api.OK {
				t.Errorf("Legal(%v): %t, %d, want %t", m, got, err, want)
			}
			if q, err := moves.After(c.r, c.p, m); !want && (err != api.ErrMove || !equal(q, api.Position{})) {
				t.Errorf("After(%v): %+v, %d, want nothing, %d", m, q, err, api.ErrMove)
			}
		}
	}
}

// TestP124Legal changes one number of legal moves.
func TestP124Legal(t *testing.T) {
	c := sample()
	l, _ := moves.All(c.r, c.p)
	for _, m := range l {
		for _, n := range append(extremes, 9, 10, 11, 12, 13) {
			for _, other := range []api.Move{{From: n, To: m.To, Piece: m.Piece}, {From: m.From, To: n, Piece: m.Piece}, {From: m.From, To: m.To, Piece: n}} {
				want := slices.Contains(l, other)
				if got, err := moves.Legal(c.r, c.p, other); got != want || err != api.OK {
					t.Errorf("Legal(%v): %t, %d, want %t", other, got, err, want)
				}
			}
		}
	}
}

func TestP125Written(t *testing.T) {
	r := board(3, 2, api.RulePiece{Letter: 'A', Promote: 2, Ways: []api.RuleWay{step(1, 0), step(0, 1)}}, piece('B', step(1, 0), step(-1, 0)))
	keeps := r
	keeps.Keeps = true
	put := func(to, kind int) api.Move { return api.Move{From: -1, To: to, Piece: kind} }
	move := func(from, to, kind int) api.Move { return api.Move{From: from, To: to, Piece: kind} }
	for _, c := range []struct {
		before string
		m      api.Move
		after  string // without Keeps
		kept   string // with Keeps, if this differs
	}{
		{"3/3 A2B1 A1 1 7", put(1, 0), "3/1A1 A1B1 A1 2 0", ""},
		{"3/3 A2B1 A1 1 0", put(5, 1), "2B/3 A2 A1 2 0", ""},
		{"3/3 A1 A1 1 200", put(0, 0), "3/A2 - A1 2 0", ""},
		{"3/3 A2 A1B1 2 7", put(0, 1), "3/b2 A2 A1 1 0", ""},
		{"3/3 A1000 A1000 2 7", put(4, 0), "1a1/3 A1000 A999 1 0", ""},
		{"3/Ab1 - - 1 0", move(0, 3, 1), "B2/1b1 - - 2 1", ""},
		{"3/1A1 - - 1 7", move(1, 2, 0), "3/2A - - 2 8", ""},
		{"3/1B1 A1 B1 1 7", move(1, 0, 1), "3/B2 A1 B1 2 8", ""},
		{"a2/3 A1 B1 2 7", move(3, 4, 0), "1a1/3 A1 B1 1 8", ""},
		{"a2/3 A1 B1 2 7", move(3, 0, 1), "3/b2 A1 B1 1 8", ""},
		{"3/1A1 - - 1 198", move(1, 2, 0), "3/2A - - 2 199", ""},
		{"3/1A1 - - 1 199", move(1, 2, 0), "3/2A - - 2 200", ""},
		{"3/1A1 - - 1 200", move(1, 2, 0), "3/2A - - 2 200", ""},
		{"3/Ab1 A1 A1 1 7", move(0, 1, 0), "3/1A1 A1 A1 2 0", "3/1A1 A1B1 A1 2 0"},
		{"3/Aa1 A1 A1 1 200", move(0, 1, 0), "3/1A1 A1 A1 2 0", "3/1A1 A2 A1 2 0"},
		{"3/1aB - - 2 7", move(1, 2, 1), "3/2b - - 1 0", "3/2b - B1 1 0"},
		{"A2/a2 - - 2 7", move(0, 1, 1), "A2/1b1 - - 1 8", ""},
		{"b2/A2 B3 B3 1 7", move(0, 3, 1), "B2/3 B3 B3 2 0", "B2/3 B4 B3 2 0"},
		{"a2/A2 B3 B3 1 7", move(0, 3, 1), "B2/3 B3 B3 2 0", "B2/3 A1B3 B3 2 0"},
		{"3/Ab1 B999 B5 1 7", move(0, 1, 0), "3/1A1 B999 B5 2 0", "3/1A1 B1000 B5 2 0"},
		{"3/Ab1 B1000 B5 1 7", move(0, 1, 0), "3/1A1 B1000 B5 2 0", ""},
		{"3/Ab1 A1000 - 1 7", move(0, 1, 0), "3/1A1 A1000 - 2 0", "3/1A1 A1000B1 - 2 0"},
		{"3/bA1 - B1000 2 7", move(0, 1, 1), "3/1b1 - B1000 1 0", "3/1b1 - A1B1000 1 0"},
	} {
		if c.kept == "" {
			c.kept = c.after
		}
		for _, half := range []struct {
			r    api.Rules
			want string
		}{{r, c.after}, {keeps, c.kept}} {
			q, err := moves.After(half.r, read(t, r, c.before), c.m)
			if got, _ := place.Text(r, q); got != half.want || err != api.OK {
				t.Errorf("After of %q and %v with Keeps %t: %q, %d, want %q", c.before, c.m, half.r.Keeps, got, err, half.want)
			}
		}
	}
}

// slowAfter puts the position after a legal move together square by square and type by type.
func slowAfter(r api.Rules, p api.Position, m api.Move) api.Position {
	var q api.Position
	for square, cell := range p.Cells {
		switch square {
		case m.To:
			cell = []int{1, 2}[p.Turn] + 2*m.Piece
		case m.From:
			cell = 0
		}
		q.Cells = append(q.Cells, cell)
	}
	quiet := m.From != -1 && p.Cells[m.To] == 0
	for player, hand := range p.Hands {
		for kind, n := range hand {
			taken := p.Cells[m.To] == 2*kind+1 || p.Cells[m.To] == 2*kind+2
			switch {
			case player != p.Turn:
			case m.From == -1 && kind == m.Piece:
				n--
			case taken && r.Keeps && n < 1000:
				n++
			}
			q.Hands[player] = append(q.Hands[player], n)
		}
	}
	if quiet {
		q.Quiet = min(200, p.Quiet+1)
	}
	q.Turn = []int{api.Second, api.First}[p.Turn]
	return q
}

func TestP125Slow(t *testing.T) {
	seen := map[string]int{}
	for _, c := range all(1500) {
		l, _ := moves.All(c.r, c.p)
		for _, m := range l {
			want := slowAfter(c.r, c.p, m)
			if got, err := moves.After(c.r, c.p, m); !equal(got, want) || err != api.OK {
				t.Fatalf("After(%+v, %+v, %v): %+v, %d, want %+v", c.r, c.p, m, got, err, want)
			}
			if err := place.Check(c.r, want); err != api.OK {
				t.Fatalf("the position after %v in %+v of %+v: %d", m, c.p, c.r, err)
			}
			taken := c.p.Cells[m.To]
			if taken != 0 {
				seen[fmt.Sprint("take ", c.p.Turn, c.r.Keeps, c.p.Hands[c.p.Turn][(taken-1)/2] == 1000)]++
			} else if m.From != -1 {
				seen[fmt.Sprint("quiet ", c.p.Turn, c.p.Quiet == 200)]++
			}
		}
	}
	for turn := range 2 {
		for _, at := range []bool{false, true} {
			for _, what := range []string{fmt.Sprint("take ", turn, false, at), fmt.Sprint("take ", turn, true, at), fmt.Sprint("quiet ", turn, at)} {
				if seen[what] < 5 {
					t.Errorf("%s came up %d times only: %v", what, seen[what], seen)
				}
			}
		}
	}
}

// TestP125NotLegal has all candidates that are not legal.
func TestP125NotLegal(t *testing.T) {
	for _, c := range all(100) {
		l, _ := moves.All(c.r, c.p)
		for _, m := range testkit.Candidates(c.r) {
			q, err := moves.After(c.r, c.p, m)
			if is := slices.Contains(l, m); is != (err == api.OK) || !is && (err != api.ErrMove || !equal(q, api.Position{})) {
				t.Fatalf("After(%+v, %+v, %v): %+v, %d, for a move that is legal: %t", c.r, c.p, m, q, err, is)
			}
		}
	}
}

// TestP125Games plays games from their beginnings. With Keeps, no piece is ever lost: the games are too short to fill a hand.
func TestP125Games(t *testing.T) {
	random := rand.New(rand.NewPCG(6, 125))
	count := func(p api.Position) int {
		n := 0
		for _, cell := range p.Cells {
			if cell != 0 {
				n++
			}
		}
		for _, hand := range p.Hands {
			for _, held := range hand {
				n += held
			}
		}
		return n
	}
	plies := 0
	for range 200 {
		r, _ := testkit.AnyGame(random.IntN)
		p, _ := place.Begin(r)
		pieces := count(p)
		for range 60 {
			l, err := moves.All(r, p)
			if err != api.OK {
				t.Fatalf("All(%+v, %+v): %d", r, p, err)
			}
			if len(l) == 0 {
				break
			}
			m := l[random.IntN(len(l))]
			q, err := moves.After(r, p, m)
			if want := slowAfter(r, p, m); !equal(q, want) || err != api.OK {
				t.Fatalf("After(%+v, %+v, %v): %+v, %d, want %+v", r, p, m, q, err, want)
			}
			if !r.Keeps && p.Cells[m.To] != 0 {
				pieces--
			}
			if count(q) != pieces {
				t.Fatalf("after %v in %+v there are %d pieces, want %d", m, p, count(q), pieces)
			}
			p = q
			plies++
		}
	}
	if plies < 3000 {
		t.Errorf("the games had %d moves only", plies)
	}
}

// TestP123Other has positions in which the players are exchanged, without Falls: their moves are those of the position, seen from the other side.
func TestP123Other(t *testing.T) {
	for _, c := range all(600) {
		c.r.Falls = false
		m, _ := rules.Mirror(c.r)
		o, _ := place.Other(c.r, c.p)
		mirrored := func(square int) int {
			return (c.r.Height-1-square/c.r.Width)*c.r.Width + square%c.r.Width
		}
		l, _ := moves.All(c.r, c.p)
		others, _ := moves.All(m, o)
		if len(l) != len(others) {
			t.Fatalf("All(%+v, %+v): %v, and from the other side %v", c.r, c.p, l, others)
		}
		for _, move := range l {
			other := move
			other.To = mirrored(move.To)
			if move.From != -1 {
				other.From = mirrored(move.From)
			}
			q, _ := moves.After(c.r, c.p, move)
			want, _ := place.Other(c.r, q)
			if got, err := moves.After(m, o, other); !equal(got, want) || err != api.OK {
				t.Fatalf("After(%+v, %+v, %v): %+v, %d, want %+v", m, o, other, got, err, want)
			}
		}
	}
}
