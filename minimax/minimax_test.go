package minimax_test

import (
	"fmt"
	"iter"
	"math"
	"math/rand/v2"
	"slices"
	"strings"
	"testing"

	"gamehall/api"
	"gamehall/board"
	"gamehall/ends"
	"gamehall/minimax"
	"gamehall/moves"
	"gamehall/perft"
	"gamehall/place"
	"gamehall/ruletext"
	"gamehall/testkit"
)

// The tests hold package minimax against scores and lines that were computed outside the program, against what is known of three in a row and of hexapawn, against a slow search for wins that can be forced, and against the scores of the positions after the first moves.

// extremes are ints at and beyond all the bounds that occur in the chapter.
var extremes = []int{math.MinInt, math.MinInt + 1, -1000, -64, -8, -2, -1, 0, 1, 2, 3, 5, 6, 7, 8, 11, 12, 13, 63, 64, 65, 199, 200, 201, 999, 1000, 1001, 49999, 50000, 50001, 1 << 32, math.MaxInt - 1, math.MaxInt}

func rulesOf(t *testing.T, text string) api.Rules {
	t.Helper()
	r, err := ruletext.Parse(text)
	if err != api.OK {
		t.Fatalf("the text %q of the test has no rules: %d", text, err)
	}
	return r
}

// read returns the position with a text, or the beginning for no text.
func read(t *testing.T, r api.Rules, s string) api.Position {
	t.Helper()
	p, err := place.Begin(r)
	if s != "" {
		p, err = place.Read(r, s)
	}
	if err != api.OK {
		t.Fatalf("the text %q of the test has no position: %d", s, err)
	}
	return p
}

func sample() (api.Rules, api.Position) {
	r, _ := ruletext.Parse(testkit.CampRules)
	p, _ := place.Read(r, testkit.CampPosition)
	return r, p
}

func put(square int) api.Move {
	return api.Move{From: -1, To: square}
}

// games returns an iterator over the sample, the beginning of its game, and so many games of all kinds, the same for each call.
func games(n int) iter.Seq2[api.Rules, api.Position] {
	return func(yield func(api.Rules, api.Position) bool) {
		r, p := sample()
		begin, _ := place.Begin(r)
		random := rand.New(rand.NewPCG(12, 139))
		for goOn, left := yield(r, p) && yield(r, begin), n; goOn && left > 0; left-- {
			goOn = yield(testkit.SearchGame(random.IntN))
		}
	}
}

// isShort reports whether there are at most so many sequences to a depth, so that slow tests do not take long.
func isShort(r api.Rules, p api.Position, depth, most int) bool {
	n, err := perft.Tree(r, p, depth)
	return err == api.OK && n <= most
}

// show writes moves with the letters of the types, and an @ for the hand.
func show(r api.Rules, l []api.Move) string {
	var words []string
	for _, m := range l {
		word := fmt.Sprintf("%d-%d%c", m.From, m.To, r.Pieces[m.Piece].Letter)
		words = append(words, strings.Replace(word, "-1-", "@", 1))
	}
	return strings.Join(words, " ")
}

// view tells what the functions with a position return.
func view(r api.Rules, p api.Position, depth int) string {
	score, scoreErr := minimax.Score(r, p, depth)
	best, bestScore, bestErr := minimax.Best(r, p, depth)
	line, lineErr := minimax.Line(r, p, depth)
	return fmt.Sprint(score, scoreErr, best, bestScore, bestErr, line, lineErr)
}

// refuse has arguments with the same error for all functions.
func refuse(t *testing.T, r api.Rules, p api.Position, depth int, want api.Errno) {
	t.Helper()
	if got, want := view(r, p, depth), fmt.Sprint(0, want, api.Move{}, 0, want, []api.Move{}, want); got != want {
		t.Errorf("%+v by %+v to the depth %d: %s, want %s", p, r, depth, got, want)
	}
}

// hold has arguments without an error but those of Best for the depth 0 and for a position that is over, which has no line.
func hold(t *testing.T, r api.Rules, p api.Position, depth, score int, line []api.Move) {
	t.Helper()
	best, bestScore, bestErr := api.Move{}, 0, api.OK
	switch {
	case depth == 0:
		bestErr = api.ErrArg
	case len(line) == 0:
		bestErr = api.ErrOver
	default:
		best, bestScore = line[0], score
	}
	if got, want := view(r, p, depth), fmt.Sprint(score, api.OK, best, bestScore, bestErr, line, api.OK); got != want {
		t.Errorf("%+v by %+v to the depth %d: %s, want %s", p, r, depth, got, want)
	}
}

func TestP139Nearer(t *testing.T) {
	for n, want := range map[int]int{
		0: 0, 1: 0, 2: 1, 3: 2, 999: 998, 1000: 999, 1001: 1000, math.MaxInt - 1: math.MaxInt - 2, math.MaxInt: math.MaxInt - 1,
		-1: 0, -2: -1, -3: -2, -999: -998, -1000: -999, -1001: -1000, math.MinInt + 1: math.MinInt + 2, math.MinInt: math.MinInt + 1,
	} {
		if got := minimax.Nearer(n); got != want {
			t.Errorf("Nearer(%d): %d, want %d", n, got, want)
		}
	}
}

// TestP139Over has positions that are over, for each reason and both players, to all depths. In some of them there are legal moves.
func TestP139Over(t *testing.T) {
	row, camp := testkit.Three(), rulesOf(t, testkit.CampRules)
	avoid := testkit.Three()
	avoid.Ends[0].Loses = true
	ended := func(blocked int) api.Rules {
		r := testkit.Three()
		r.Blocked = blocked
		return r
	}
	for _, c := range []struct {
		r        api.Rules
		position string
		score    int
	}{
		{row, "3/aa1/AAA A2 A3 2 0", -1000},
		{row, "3/aaa/AA1 A3 A2 1 0", -1000},
		{avoid, "3/aa1/AAA A2 A3 2 0", 1000},
		{avoid, "3/aaa/AA1 A3 A2 1 0", 1000},
		{camp, "sG1/2s/1s1/1GS S1G1 - 2 0", -1000},
		{camp, "sg1/2s/1s1/1gS S1 G1 1 0", -1000},
		{camp, "sg1/S1s/1s1/1GS S1 - 1 6", 0},
		{camp, "sg1/S1s/1s1/1GS S1 - 2 6", 0},
		{row, "AaA/aaA/AAa - A1 2 0", 0},
		{row, "aAa/AAa/aaA A1 - 1 0", 0},
		{ended(api.BlockedLoses), "AaA/aaA/AAa - A1 2 0", -1000},
		{ended(api.BlockedLoses), "aAa/AAa/aaA A1 - 1 0", -1000},
		{ended(api.BlockedWins), "AaA/aaA/AAa - A1 2 0", 1000},
		{ended(api.BlockedWins), "3/3/3 - A1 1 0", 1000},
	} {
		p := read(t, c.r, c.position)
		if result, _ := ends.Of(c.r, p); result == api.Open {
			t.Errorf("the position %q of the test is not over", c.position)
		}
		for depth := 0; depth <= 12; depth++ {
			hold(t, c.r, p, depth, c.score, nil)
		}
	}
}

// A found is a score and a line.
type found struct {
	score int
	line  string
}

// A written is a game with what is found in it to each depth. The last of the founds is that of all depths that follow, up to the first one with too many sequences.
type written struct {
	rules, position string // the beginning, if there is no position
	bound           int
	founds          []found
}

// try holds the functions against a game that is written out.
func (w written) try(t *testing.T) {
	t.Helper()
	r := rulesOf(t, w.rules)
	p := read(t, r, w.position)
	for depth := 0; depth <= 12; depth++ {
		if depth >= w.bound {
			refuse(t, r, p, depth, api.ErrBound)
			continue
		}
		want := w.founds[min(depth, len(w.founds)-1)]
		line, err := minimax.Line(r, p, depth)
		if got := show(r, line); got != want.line || err != api.OK {
			t.Errorf("%s from %q: Line to the depth %d: %q, %d, want %q", r.Name, w.position, depth, got, err, want.line)
		}
		hold(t, r, p, depth, want.score, line)
	}
}

// TestP141Written has games in which pieces are put, move, take, change and are kept, and which end in all ways.
func TestP141Written(t *testing.T) {
	for _, w := range []written{
		{testkit.CampRules, "", 7, []found{{0, ""}, {0, "@3S"}, {0, "@3S @4S"}, {997, "@6S @3S 6-10G"}}},
		{testkit.CampRules, testkit.CampPosition, 7, []found{{0, ""}, {999, "6-10G"}}},
		// It is the turn of Second, and the next move but one is the last one if both are quiet.
		{testkit.CampRules, "sg1/S1s/1s1/1GS S1 - 2 4", 7, []found{
			{0, ""},
			{0, "4-2G"},
			{0, "4-2G @0S"},
			{0, "4-2G 1-2G @0S"},
			{0, "4-2G 1-2G 10-11G @0S"},
			{0, "4-2G 1-2G 10-11G @0S @1S"},
			{0, "10-11G @5S 4-2G 1-2G @0S @1G"},
		}},
		// Three in a row lose here, and no move wins.
		{testkit.FallRules, "", 13, []found{{0, ""}, {0, "@0A"}, {0, "@0A @1A"}, {0, "@0A @1A @2B"}, {996, "@2A @0A @3B @1B"}}},
		// The one who begins loses.
		{testkit.PawnRules, "", 13, []found{
			{0, ""},
			{0, "0-3P"},
			{0, "0-3P 7-3P"},
			{0, "0-3P 7-3P 1-3P"},
			{0, "1-4P 6-4P 2-4P 8-4P"},
			{0, "1-4P 6-4P 2-4P 8-5P 0-3P"},
			{-994, "1-4P 6-4P 2-4P 8-5P 0-3P 5-2P"},
		}},
	} {
		w.try(t)
	}
}

// TestP141ThreeInARow has what is known of the game: each first move is a draw; after First began in a corner, it is a draw only if Second is in the centre; and after First began in the centre, only if Second is in a corner.
func TestP141ThreeInARow(t *testing.T) {
	text, err := ruletext.Print(testkit.Three())
	if err != api.OK {
		t.Fatalf("Print: %d", err)
	}
	for _, w := range []written{
		{text, "", 6, []found{{0, ""}, {0, "@0A"}, {0, "@0A @1A"}, {0, "@0A @1A @2A"}, {0, "@0A @1A @2A @3A"}, {0, "@0A @1A @2A @3A @4A"}}},
		{text, "3/3/A2 A4 A5 2 0", 8, []found{
			{0, ""},
			{0, "@1A"},
			{0, "@1A @2A"},
			{0, "@1A @2A @3A"},
			{0, "@1A @2A @3A @4A"},
			{0, "@1A @2A @3A @4A @5A"},
			{0, "@4A @1A @2A @6A @3A @5A"},
			{0, "@4A @1A @2A @6A @3A @5A @7A"},
		}},
		{text, "3/3/A1a A4 A4 1 0", 13, []found{{0, ""}, {0, "@1A"}, {0, "@1A @3A"}, {0, "@1A @3A @4A"}, {0, "@1A @3A @4A @5A"}, {995, "@3A @6A @4A @1A @5A"}}},
		{text, "3/1a1/A2 A4 A4 1 0", 13, []found{
			{0, ""},
			{0, "@1A"},
			{0, "@1A @2A"},
			{0, "@1A @2A @3A"},
			{0, "@1A @2A @6A @3A"},
			{0, "@1A @2A @6A @3A @5A"},
			{0, "@1A @2A @6A @3A @5A @7A"},
			{0, "@1A @2A @6A @3A @5A @7A @8A"},
		}},
		{text, "2A/1a1/A2 A3 A4 2 0", 13, []found{
			{0, ""},
			{0, "@1A"},
			{0, "@1A @2A"},
			{0, "@1A @7A @2A"},
			{0, "@1A @7A @6A @2A"},
			{0, "@1A @7A @6A @2A @3A"},
			{0, "@1A @7A @6A @2A @5A @3A"},
		}},
		{text, "A2/3/A1a A3 A4 2 0", 13, []found{{0, ""}, {0, "@1A"}, {0, "@3A @1A"}, {0, "@3A @1A @4A"}, {-996, "@3A @8A @1A @4A"}}},
	} {
		w.try(t)
	}
	for square := range 9 {
		expectScore(t, text, 0, square, map[bool]int{true: 0, false: 995}[square == 4])
		expectScore(t, text, 4, square, map[bool]int{true: 0, false: 995}[square%2 == 0])
	}
}

// expectScore has the score for First after both players have put a piece on a square, unless both squares are the same.
func expectScore(t *testing.T, text string, first, second, want int) {
	t.Helper()
	if first == second {
		return
	}
	r := rulesOf(t, text)
	p := read(t, r, "")
	p.Hands = [2][]int{{4}, {4}}
	p.Cells[first], p.Cells[second] = 1, 2
	if got, err := minimax.Score(r, p, 12); got != want || err != api.OK {
		t.Errorf("First is on %d, and Second on %d: the score %d, %d, want %d", first, second, got, err, want)
	}
}

// TestP140Example has the example of P140, for both players and all rows.
func TestP140Example(t *testing.T) {
	r := testkit.Three()
	for _, squares := range [][3]int{{0, 1, 2}, {3, 4, 5}, {6, 7, 8}, {0, 3, 6}, {1, 4, 7}, {2, 5, 8}, {0, 4, 8}, {2, 4, 6}} {
		for i, gap := range squares {
			for player := range 2 {
				p := api.Position{Cells: make([]int, 9), Hands: [2][]int{{3}, {3}}, Turn: player}
				p.Cells[squares[(i+1)%3]], p.Cells[squares[(i+2)%3]] = player+1, player+1
				for depth := 1; depth <= 4; depth++ {
					hold(t, r, p, depth, 999, []api.Move{put(gap)})
				}
			}
		}
	}
}

// TestP140First has several moves with the greatest number: that win, that draw, and that lose.
func TestP140First(t *testing.T) {
	row := testkit.Three()
	hold(t, row, read(t, row, "A1a/3/A1A A2 A4 1 0"), 5, 999, []api.Move{put(1)})
	hold(t, row, read(t, row, "A1a/3/AaA A2 A3 1 0"), 5, 999, []api.Move{put(3)})
	hold(t, row, read(t, row, "aA1/Aa1/AaA A1 A2 2 0"), 1, 0, []api.Move{put(5)})
	hold(t, row, read(t, row, "aA1/Aa1/AaA A1 A2 2 0"), 2, 0, []api.Move{put(5), put(8)})
	hold(t, row, read(t, row, "A1a/3/A1A A2 A4 2 0"), 2, -998, []api.Move{put(1), put(3)})
	hold(t, row, read(t, row, "3/3/3 A5 A5 2 0"), 1, 0, []api.Move{put(0)})
	// Pieces that are put come before others, and a type before those behind it.
	camp := rulesOf(t, testkit.CampRules)
	hold(t, camp, read(t, camp, "s2/3/3/S1G S1G1 - 1 0"), 1, 999, []api.Move{{From: -1, To: 1}})
	hold(t, camp, read(t, camp, "s2/3/3/S1G G1 - 1 0"), 1, 999, []api.Move{{From: -1, To: 1, Piece: 1}})
	hold(t, camp, read(t, camp, "s2/3/3/S1G - - 1 0"), 1, 999, []api.Move{{From: 0, To: 3}})
}

// TestP140Soon has moves after which a player wins at different times: the best one is that which wins soon, or loses late.
func TestP140Soon(t *testing.T) {
	row := testkit.Three()
	// There are moves before these that win later, by two threats.
	hold(t, row, read(t, row, "A1A/3/1a1 A3 A4 1 0"), 3, 999, []api.Move{put(7)})
	hold(t, row, read(t, row, "a1a/1A1/2A A4 A3 2 0"), 3, 999, []api.Move{put(7)})
	// All moves lose, but only that on 3 stops the row, so that the other player needs a further one.
	hold(t, row, read(t, row, "A2/3/A1a A3 A4 2 0"), 4, -996, []api.Move{put(3), put(8), put(1), put(4)})
	hold(t, row, read(t, row, "a2/3/a1A A4 A3 1 0"), 4, -996, []api.Move{put(3), put(8), put(1), put(4)})
}

// TestP141Repeat has the same scores and lines for all numbers of repetitions, since a position has no history.
func TestP141Repeat(t *testing.T) {
	r := testkit.Steps()
	p, _ := place.Begin(r)
	first, step := testkit.ToAndFro(0), api.Move{From: 2, To: 0}
	for depth, want := range []found{{0, ""}, {0, "0-1A"}, {-998, "0-1A 2-0A"}, {-998, "0-1A 2-0A"}} {
		hold(t, r, p, depth, want.score, []api.Move{first, step}[:min(depth, 2)])
	}
	for r, p := range games(200) {
		if !isShort(r, p, 2, 2000) {
			continue
		}
		r.Repeat = 0
		want := view(r, p, 2)
		for r.Repeat = 2; r.Repeat <= 5; r.Repeat++ {
			if got := view(r, p, 2); got != want {
				t.Errorf("%+v by %+v: %s, and without repetitions %s", p, r, got, want)
			}
		}
	}
}

// TestP139Wrong has wrong rules and positions with depths that are right and wrong.
func TestP139Wrong(t *testing.T) {
	r, p := sample()
	for _, w := range testkit.Wrongs(r, p) {
		for _, depth := range []int{math.MinInt, -1, 0, 1, 2, 12, 13, math.MaxInt} {
			refuse(t, w.Rules, w.Position, depth, w.Err)
		}
	}
}

// TestP139Numbers has rules and positions in which one number, or each of them, is at or beyond its bounds.
func TestP139Numbers(t *testing.T) {
	seen := map[api.Errno]int{}
	r, p := sample()
	for r, p := range testkit.Changed(r, p, extremes) {
		err := place.Check(r, p)
		seen[err]++
		if err != api.OK {
			refuse(t, r, p, 2, err)
			refuse(t, r, p, -1, err)
			continue
		}
		refuse(t, r, p, -1, api.ErrArg)
		holdSlow(t, r, p, 1)
	}
	for _, err := range []api.Errno{api.OK, api.ErrForm, api.ErrArg, api.ErrRange} {
		if seen[err] < 10 {
			t.Errorf("the error %d came up %d times only: %v", err, seen[err], seen)
		}
	}
}

// TestP139Depth has all depths that are permitted, and others, of a position that goes on, one that is over, and one that has too many sequences.
func TestP139Depth(t *testing.T) {
	row := testkit.Three()
	test := func(position string, bound, score int, line ...api.Move) {
		p := read(t, row, position)
		for _, depth := range extremes {
			switch {
			case depth < 0 || depth > 12:
				refuse(t, row, p, depth, api.ErrArg)
			case depth == 0 && len(line) > 0:
				hold(t, row, p, depth, 0, nil)
			case depth >= bound:
				refuse(t, row, p, depth, api.ErrBound)
			default:
				hold(t, row, p, depth, score, line[:min(depth, len(line))])
			}
		}
	}
	test("3/aa1/AA1 A3 A3 1 0", 13, 999, put(2))
	test("3/aa1/AAA A2 A3 2 0", 13, -1000)
	test("", 6, 0, put(0), put(1), put(2), put(3), put(4))
}

// TestP139Bound has exactly as many sequences as are permitted, and one more.
func TestP139Bound(t *testing.T) {
	written{testkit.MostRules, "", 13, []found{
		{0, ""},
		{0, "10-4A"},
		{0, "10-4A 3-1A"},
		{0, "10-4A 3-9A 4-1A"},
		{0, "10-4A 3-9A 4-1A 9-5A"},
		{0, "10-4A 3-9A 4-1A 9-7A 1-3A"},
		{0, "10-4A 3-9A 4-6A 9-5A 6-0A 5-1A"},
		{0, "10-4A 3-9A 4-6A 9-5A 6-0A 5-1A 0-4A"},
		{0, "10-4A 3-9A 4-6A 9-5A 6-0A 5-1A 0-8A 1-4A"},
		{0, "10-4A 3-9A 4-6A 9-5A 6-0A 5-1A 0-8A 1-4A 8-2A"},
		{0, "10-4A 3-9A 4-6A 9-5A 6-0A 5-1A 0-8A 1-4A 8-5A 4-0A"},
		{0, "10-4A 3-9A 4-6A 9-5A 6-0A 5-1A 0-8A 1-4A 8-5A 4-0A 5-2A"},
		{0, "10-4A 3-9A 4-6A 9-5A 6-0A 5-1A 0-8A 1-4A 8-5A 4-0A 5-2A 0-3A"},
	}}.try(t)
	more := rulesOf(t, testkit.MoreRules)
	refuse(t, more, read(t, more, ""), 11, api.ErrBound)
	refuse(t, more, read(t, more, ""), 12, api.ErrBound)
}

// TestP139BoundOfWins has too many sequences in a position in which the first move wins.
func TestP139BoundOfWins(t *testing.T) {
	r := api.Rules{Name: "WIDE", Width: 4, Height: 4, Pieces: []api.RulePiece{{Letter: 'A', Hand: 8}}, Start: make([]int, 16), Ends: []api.RuleEnd{{Kind: api.EndLine, Count: 2}}}
	p := read(t, r, "4/4/4/A3 A7 A8 1 0")
	for depth := 1; depth <= 3; depth++ {
		hold(t, r, p, depth, 999, []api.Move{put(1)})
	}
	for depth := 5; depth <= 12; depth++ {
		refuse(t, r, p, depth, api.ErrBound)
	}
}

// forces reports whether a player can force a win in at most so many moves. It makes all of them on a board, and takes them back.
func forces(b *board.Board, player, n int) bool {
	if result := b.Result(); result != api.Open || n == 0 {
		return result == api.WinsFirst && player == api.First || result == api.WinsSecond && player == api.Second
	}
	chooses := b.Turn() == player
	for _, m := range b.Moves() {
		b.Do(m)
		forced := forces(b, player, n-1)
		b.Undo()
		if forced == chooses {
			return chooses
		}
	}
	return !chooses
}

// slowScore returns the score of a position to a depth: it follows from how many moves one of the players needs to force a win.
func slowScore(r api.Rules, p api.Position, depth int) int {
	b, _ := board.New(r, p)
	for n := 0; n <= depth; n++ {
		if forces(b, p.Turn, n) {
			return 1000 - n
		}
		if forces(b, 1-p.Turn, n) {
			return n - 1000
		}
	}
	return 0
}

// slowBest returns the first of the legal moves after which the other player has least.
func slowBest(r api.Rules, p api.Position, depth int) api.Move {
	legal, _ := moves.All(r, p)
	return slices.MinFunc(legal, func(m, n api.Move) int {
		return after(r, p, m, depth) - after(r, p, n, depth)
	})
}

// after returns the score after a move, for the other player.
func after(r api.Rules, p api.Position, m api.Move, depth int) int {
	next, _ := moves.After(r, p, m)
	return slowScore(r, next, depth-1)
}

// holdSlow holds the functions against the slow ones, and returns the score.
func holdSlow(t *testing.T, r api.Rules, p api.Position, depth int) int {
	t.Helper()
	var line []api.Move
	last := p
	for left := depth; left > 0; left-- {
		if result, _ := ends.Of(r, last); result != api.Open {
			break
		}
		line = append(line, slowBest(r, last, left))
		last, _ = moves.After(r, last, line[len(line)-1])
	}
	score := slowScore(r, p, depth)
	hold(t, r, p, depth, score, line)
	return score
}

// TestSlow has games with few sequences, to all depths.
func TestSlow(t *testing.T) {
	seen := map[string]int{}
	for r, p := range games(2000) {
		for depth := 0; depth <= 12; depth++ {
			if !isShort(r, p, depth, 200) {
				break
			}
			score := holdSlow(t, r, p, depth)
			seen[fmt.Sprint("score ", score)]++
			seen[fmt.Sprint("depth ", depth)]++
			seen[fmt.Sprint("turn ", p.Turn)]++
		}
	}
	for _, what := range []string{"score 1000", "score 999", "score 998", "score 997", "score 996", "score 0", "score -996", "score -997", "score -998", "score -999", "score -1000", "depth 0", "depth 1", "depth 2", "depth 3", "depth 4", "depth 5", "depth 12", "turn 0", "turn 1"} {
		if seen[what] < 20 {
			t.Errorf("%s came up %d times only: %v", what, seen[what], seen)
		}
	}
}

// TestFirstMoves has scores and lines that follow from those after the first moves.
func TestFirstMoves(t *testing.T) {
	random := rand.New(rand.NewPCG(12, 140))
	seen := map[int]int{}
	for r, p := range games(600) {
		depth := 1 + random.IntN(5)
		if result, _ := ends.Of(r, p); result != api.Open || !isShort(r, p, depth, 5000) {
			continue
		}
		best, least := api.Move{}, math.MaxInt
		legal, _ := moves.All(r, p)
		for _, m := range legal {
			next, _ := moves.After(r, p, m)
			if score, _ := minimax.Score(r, next, depth-1); score < least {
				best, least = m, score
			}
		}
		next, _ := moves.After(r, p, best)
		rest, _ := minimax.Line(r, next, depth-1)
		score := minimax.Nearer(-least)
		hold(t, r, p, depth, score, append([]api.Move{best}, rest...))
		seen[min(max(score, -1), 1)]++
	}
	if seen[-1] < 20 || seen[0] < 20 || seen[1] < 20 {
		t.Errorf("the scores have these signs: %v", seen)
	}
}

// TestP501 has the same scores from the other side, where the rules treat both players alike.
func TestP501(t *testing.T) {
	seen := map[bool]int{}
	for r, p := range games(400) {
		other, err := place.Other(r, p)
		if r.Falls || err != api.OK {
			continue
		}
		for depth := range 4 {
			if !isShort(r, p, depth, 2000) {
				break
			}
			score, err := minimax.Score(r, p, depth)
			if n, otherErr := minimax.Score(r, other, depth); n != score || otherErr != err {
				t.Errorf("%+v by %+v to the depth %d: %d, %d, and for the players exchanged %d, %d", p, r, depth, score, err, n, otherErr)
			}
			seen[score != 0]++
		}
	}
	if seen[true] < 50 || seen[false] < 50 {
		t.Errorf("the scores are not 0, and 0, %v times only", seen)
	}
}

// TestP500 has scores by rules, and by the rules that are read from their text.
func TestP500(t *testing.T) {
	for r, p := range games(200) {
		text, err := ruletext.Print(r)
		if err != api.OK {
			t.Fatalf("Print(%+v): %d", r, err)
		}
		for depth := range 3 {
			if !isShort(r, p, depth, 2000) {
				break
			}
			if got, want := view(rulesOf(t, text), p, depth), view(r, p, depth); got != want {
				t.Errorf("by the rules %q: %s, want %s", text, got, want)
			}
		}
	}
}
