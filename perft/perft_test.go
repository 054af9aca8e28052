package perft_test

import (
	"fmt"
	"iter"
	"math"
	"math/rand/v2"
	"slices"
	"strings"
	"testing"

	"gamehall/api"
	"gamehall/board"
	"gamehall/ends"
	"gamehall/moves"
	"gamehall/perft"
	"gamehall/place"
	"gamehall/ruletext"
	"gamehall/testkit"
)

// The tests hold package perft against numbers that were computed outside the program, against known numbers of sequences, against a slow list of all sequences that new boards accept, and against what the numbers after each first move add up to.

// extremes are ints at and beyond all the bounds that occur in the chapter.
var extremes = []int{math.MinInt, math.MinInt + 1, -1000, -64, -8, -2, -1, 0, 1, 2, 3, 5, 6, 7, 8, 11, 12, 13, 63, 64, 65, 199, 200, 201, 999, 1000, 1001, 49999, 50000, 50001, 1 << 32, math.MaxInt - 1, math.MaxInt}

func rulesOf(t *testing.T, text string) api.Rules {
	t.Helper()
	r, err := ruletext.Parse(text)
	if err != api.OK {
		t.Fatalf("the text %q of the test has no rules: %d", text, err)
	}
	return r
}

// read returns the position with a text, or the beginning for no text.
func read(t *testing.T, r api.Rules, s string) api.Position {
	t.Helper()
	p, err := place.Begin(r)
	if s != "" {
		p, err = place.Read(r, s)
	}
	if err != api.OK {
		t.Fatalf("the text %q of the test has no position: %d", s, err)
	}
	return p
}

func sample() (api.Rules, api.Position) {
	r, _ := ruletext.Parse(testkit.CampRules)
	p, _ := place.Read(r, testkit.CampPosition)
	return r, p
}

// three returns the rules of three in a row, and their beginning.
func three() (api.Rules, api.Position) {
	r := testkit.Three()
	p, _ := place.Begin(r)
	return r, p
}

// games returns an iterator over the sample, the beginning of its game, and so many games of all kinds, the same for each call.
func games(n int) iter.Seq2[api.Rules, api.Position] {
	return func(yield func(api.Rules, api.Position) bool) {
		r, p := sample()
		begin, _ := place.Begin(r)
		random := rand.New(rand.NewPCG(11, 137))
		for goOn, left := yield(r, p) && yield(r, begin), n; goOn && left > 0; left-- {
			goOn = yield(testkit.SearchGame(random.IntN))
		}
	}
}

// show writes the parts with the letters of the types, and an @ for the hand.
func show(r api.Rules, parts []api.PerftPart) string {
	var words []string
	for _, part := range parts {
		from := fmt.Sprint(part.Move.From, "-")
		if part.Move.From < 0 {
			from = "@"
		}
		words = append(words, fmt.Sprintf("%s%d%c:%d", from, part.Move.To, r.Pieces[part.Move.Piece].Letter, part.Count))
	}
	return strings.Join(words, " ")
}

// view tells what all functions return.
func view(r api.Rules, p api.Position, depth int) string {
	count, countErr := perft.Count(r, p, depth)
	parts, divideErr := perft.Divide(r, p, depth)
	tree, treeErr := perft.Tree(r, p, depth)
	return fmt.Sprint(count, countErr, parts, divideErr, tree, treeErr)
}

// refuse has arguments with the same error for all functions.
func refuse(t *testing.T, r api.Rules, p api.Position, depth int, want api.Errno) {
	t.Helper()
	if got, want := view(r, p, depth), fmt.Sprint(0, want, []api.PerftPart{}, want, 0, want); got != want {
		t.Errorf("%+v by %+v to the depth %d: %s, want %s", p, r, depth, got, want)
	}
}

// hold has a depth without an error but that of Divide for 0.
func hold(t *testing.T, r api.Rules, p api.Position, depth, count, tree int, parts []api.PerftPart) {
	t.Helper()
	err := api.OK
	if depth == 0 {
		err = api.ErrArg
	}
	if got, want := view(r, p, depth), fmt.Sprint(count, api.OK, parts, err, tree, api.OK); got != want {
		t.Errorf("%+v by %+v to the depth %d: %s, want %s", p, r, depth, got, want)
	}
}

// A written is a game with its numbers of sequences by their length, and for some depths from 1 on what Divide returns. There are ErrBounds from the depth behind the last number on.
type written struct {
	rules, position string // the beginning, if there is no position
	counts          []int
	divided         []string
}

// try holds the functions against a game that is written out.
func (w written) try(t *testing.T) {
	t.Helper()
	r := rulesOf(t, w.rules)
	p := read(t, r, w.position)
	tree := 0
	for depth, want := range w.counts {
		tree += want
		count, err := perft.Count(r, p, depth)
		if count != want || err != api.OK {
			t.Errorf("%s: Count to the depth %d: %d, %d, want %d", r.Name, depth, count, err, want)
		}
		if n, err := perft.Tree(r, p, depth); n != tree || err != api.OK {
			t.Errorf("%s: Tree to the depth %d: %d, %d, want %d", r.Name, depth, n, err, tree)
		}
	}
	for depth := len(w.counts); depth <= 12; depth++ {
		refuse(t, r, p, depth, api.ErrBound)
	}
	for i, want := range w.divided {
		parts, err := perft.Divide(r, p, i+1)
		if got := show(r, parts); got != want || err != api.OK {
			t.Errorf("%s: Divide to the depth %d: %q, %d, want %q", r.Name, i+1, got, err, want)
		}
	}
}

// TestP137Known has the known numbers of sequences from the beginnings of games.
func TestP137Known(t *testing.T) {
	text, err := ruletext.Print(testkit.Three())
	if err != api.OK {
		t.Fatalf("Print: %d", err)
	}
	for _, w := range []written{
		{text, "", []int{1, 9, 72, 504, 3024, 15120}, nil},
		{`game FOUR 7 6
piece A 21 -
row .......
row .......
row .......
row .......
row .......
row .......
falls
end line 4 wins
blocked draws
quiet 0
repeat 0
`, "", []int{1, 7, 49, 343, 2401, 16807}, nil},
		{`game BREAK 8 8
piece A 0 -
way 0 1 1 never
way -1 1 1 may
way 1 1 1 may
row aaaaaaaa
row aaaaaaaa
row ........
row ........
row ........
row ........
row AAAAAAAA
row AAAAAAAA
end reach A wins
blocked loses
quiet 0
repeat 0
`, "", []int{1, 22, 484, 11132}, nil},
	} {
		w.try(t)
	}
}

// TestP138Written has games in which pieces are put, move, take, change and are kept, and which end in all ways.
func TestP138Written(t *testing.T) {
	for _, w := range []written{
		{testkit.CampRules, testkit.CampPosition, []int{1, 9, 25, 126, 645, 4074, 21579}, []string{
			"@0S:1 @3S:1 @5S:1 @7S:1 @11S:1 1-0G:1 2-4S:1 2-5S:1 6-10G:1",
			"@0S:4 @3S:3 @5S:2 @7S:4 @11S:3 1-0G:5 2-4S:3 2-5S:1 6-10G:0",
			"@0S:14 @3S:9 @5S:5 @7S:19 @11S:9 1-0G:33 2-4S:30 2-5S:7 6-10G:0",
			"@0S:72 @3S:44 @5S:31 @7S:112 @11S:60 1-0G:187 2-4S:125 2-5S:14 6-10G:0",
		}},
		// It is the turn of Second, and the next move but one is the last one if both are quiet.
		{testkit.CampRules, "sg1/S1s/1s1/1GS S1 - 2 4", []int{1, 3, 25, 125, 720, 4124, 35953}, []string{
			"4-2G:1 8-5S:1 10-11G:1",
			"4-2G:9 8-5S:8 10-11G:8",
			"4-2G:86 8-5S:20 10-11G:19",
		}},
		{testkit.FallRules, "", []int{1, 6, 36, 108, 293, 291, 239, 308, 493, 541, 409, 352, 500}, []string{
			"@0A:1 @0B:1 @1A:1 @1B:1 @2A:1 @2B:1",
			"@0A:6 @0B:6 @1A:6 @1B:6 @2A:6 @2B:6",
			"@0A:22 @0B:16 @1A:22 @1B:16 @2A:16 @2B:16",
		}},
		{testkit.PawnRules, "", []int{1, 3, 10, 28, 56, 70, 64, 20, 0, 0, 0, 0, 0}, []string{
			"0-3P:1 1-4P:1 2-5P:1",
			"0-3P:3 1-4P:4 2-5P:3",
			"0-3P:8 1-4P:12 2-5P:8",
			"0-3P:15 1-4P:26 2-5P:15",
			"0-3P:18 1-4P:34 2-5P:18",
			"0-3P:13 1-4P:38 2-5P:13",
			"0-3P:6 1-4P:8 2-5P:6",
			"0-3P:0 1-4P:0 2-5P:0",
			"0-3P:0 1-4P:0 2-5P:0",
		}},
	} {
		w.try(t)
	}
}

// TestP138Wins has a position in which the first move can end the game: there are no sequences that go on then.
func TestP138Wins(t *testing.T) {
	text, _ := ruletext.Print(testkit.Three())
	written{text, "3/aa1/AA1 A3 A3 1 0", []int{1, 5, 16, 39, 60, 36, 0, 0, 0, 0, 0, 0, 0}, []string{
		"@2A:1 @5A:1 @6A:1 @7A:1 @8A:1",
		"@2A:0 @5A:4 @6A:4 @7A:4 @8A:4",
		"@2A:0 @5A:12 @6A:9 @7A:9 @8A:9",
		"@2A:0 @5A:18 @6A:14 @7A:14 @8A:14",
		"@2A:0 @5A:14 @6A:10 @7A:6 @8A:6",
		"@2A:0 @5A:0 @6A:0 @7A:0 @8A:0",
	}}.try(t)
}

// TestP138Example has the example of P138.
func TestP138Example(t *testing.T) {
	r, p := three()
	r.Ends = nil
	if n, err := perft.Count(r, p, 2); n != 72 || err != api.OK {
		t.Errorf("Count: %d, %d, want 72", n, err)
	}
}

// TestP137Repeat steps to and fro: that a position occurs again does not matter on a board.
func TestP137Repeat(t *testing.T) {
	r := testkit.Steps()
	p, _ := place.Begin(r)
	tree := 0
	for depth, count := range []int{1, 1, 2, 1, 2, 1, 2, 1, 2, 1, 2, 1, 2} {
		tree += count
		var parts []api.PerftPart
		if depth > 0 {
			parts = []api.PerftPart{{Move: testkit.ToAndFro(0), Count: count}}
		}
		hold(t, r, p, depth, count, tree, parts)
	}
}

// TestP137Over has positions that are over, for each reason, though there are legal moves in some of them.
func TestP137Over(t *testing.T) {
	row, _ := three()
	camp := rulesOf(t, testkit.CampRules)
	full := api.Rules{Name: "FULL", Width: 1, Height: 2, Pieces: []api.RulePiece{{Letter: 'A', Hand: 1}}, Start: []int{0, 0}}
	for _, c := range []struct {
		r        api.Rules
		position string
	}{
		{row, "3/aa1/AAA A2 A3 2 0"},
		{row, "3/aaa/AA1 A2 A2 1 0"},
		{row, "AaA/aaA/AAa - A1 2 0"},
		{camp, "sG1/2s/1s1/1GS S1G1 - 2 0"},
		{camp, "sg1/S1s/1s1/1GS S1 - 2 6"},
		{full, "a/A - - 1 0"},
		{full, "1/A - A1 1 0"},
	} {
		p := read(t, c.r, c.position)
		if result, _ := ends.Of(c.r, p); result == api.Open {
			t.Errorf("the position %q of the test is not over", c.position)
		}
		hold(t, c.r, p, 0, 1, 1, nil)
		for depth := 1; depth <= 12; depth++ {
			hold(t, c.r, p, depth, 0, 1, nil)
		}
	}
}

// TestP137Wrong has wrong rules and positions with depths that are right and wrong.
func TestP137Wrong(t *testing.T) {
	r, p := sample()
	for _, w := range testkit.Wrongs(r, p) {
		for _, depth := range []int{math.MinInt, -1, 0, 1, 2, 12, 13, math.MaxInt} {
			refuse(t, w.Rules, w.Position, depth, w.Err)
		}
	}
}

// TestP137Numbers has rules and positions in which one number, or each of them, is at or beyond its bounds.
func TestP137Numbers(t *testing.T) {
	seen := map[api.Errno]int{}
	r, p := sample()
	for r, p := range testkit.Changed(r, p, extremes) {
		err := place.Check(r, p)
		seen[err]++
		if err != api.OK {
			refuse(t, r, p, 2, err)
			refuse(t, r, p, -1, err)
			continue
		}
		refuse(t, r, p, -1, api.ErrArg)
		b, _ := board.New(r, p)
		var parts []api.PerftPart
		for _, m := range b.Moves() {
			parts = append(parts, api.PerftPart{Move: m, Count: 1})
		}
		hold(t, r, p, 1, len(parts), len(parts)+1, parts)
	}
	for _, err := range []api.Errno{api.OK, api.ErrForm, api.ErrArg, api.ErrRange} {
		if seen[err] < 10 {
			t.Errorf("the error %d came up %d times only: %v", err, seen[err], seen)
		}
	}
}

// TestP137Depth has all depths that are permitted, and others, of a position that goes on, one that is over, and one that has too many sequences.
func TestP137Depth(t *testing.T) {
	row, empty := three()
	step := testkit.Steps()
	begin, _ := place.Begin(step)
	test := func(r api.Rules, p api.Position, bound int) {
		for _, depth := range extremes {
			_, err := perft.Divide(r, p, depth)
			switch {
			case depth < 0 || depth > 12:
				refuse(t, r, p, depth, api.ErrArg)
			case depth == 0:
				hold(t, r, p, depth, 1, 1, nil)
			case depth >= bound:
				refuse(t, r, p, depth, api.ErrBound)
			case err != api.OK:
				t.Errorf("Divide to the depth %d: %d", depth, err)
			}
		}
	}
	test(step, begin, 13)
	test(row, read(t, row, "3/aa1/AAA A2 A3 2 0"), 13)
	test(row, empty, 6)
}

// TestP137Bound has exactly as many sequences as are permitted, and one more. Both games have a depth with fewer sequences of exactly this length, which do not matter.
func TestP137Bound(t *testing.T) {
	most := written{testkit.MostRules, "", []int{1, 2, 6, 21, 38, 83, 227, 493, 1045, 2506, 5481, 12094, 28003}, nil}
	more := written{testkit.MoreRules, "", []int{1, 3, 8, 29, 54, 169, 322, 901, 2266, 5452, 11932}, nil}
	most.try(t)
	more.try(t)
	r := rulesOf(t, testkit.MostRules)
	parts, err := perft.Divide(r, read(t, r, ""), 12)
	n := 0
	for _, part := range parts {
		n += part.Count
	}
	if n != 28003 || err != api.OK {
		t.Errorf("Divide of 50000 sequences: %v, %d", parts, err)
	}
}

// TestP137BoundOfCount has too many sequences, though none of exactly the depth: all games of three in a row are over before it.
func TestP137BoundOfCount(t *testing.T) {
	r, p := three()
	for _, depth := range []int{10, 11, 12} {
		refuse(t, r, p, depth, api.ErrBound)
	}
}

// sequences returns all sequences of at most so many moves, by their length: moves of all candidates, all of which a new board accepts. It returns nothing if they are more than most.
func sequences(r api.Rules, p api.Position, depth, most int) [][][]api.Move {
	levels := [][][]api.Move{{nil}}
	candidates := testkit.Candidates(r)
	total := 1
	for range depth {
		var next [][]api.Move
		for _, l := range levels[len(levels)-1] {
			for _, m := range candidates {
				if longer := append(slices.Clone(l), m); canBeMade(r, p, longer) {
					next = append(next, longer)
				}
			}
			if total+len(next) > most {
				return nil
			}
		}
		total += len(next)
		levels = append(levels, next)
	}
	return levels
}

func canBeMade(r api.Rules, p api.Position, l []api.Move) bool {
	b, _ := board.New(r, p)
	for _, m := range l {
		if b.Do(m) != api.OK {
			return false
		}
	}
	return true
}

// TestSlow lists the sequences of games in which they are few, on small boards.
func TestSlow(t *testing.T) {
	seen := map[string]int{}
	for r, p := range games(400) {
		if len(testkit.Candidates(r)) > 300 {
			continue
		}
		for depth := range 13 {
			levels := sequences(r, p, depth, 100)
			if levels == nil {
				break
			}
			total := 0
			for _, l := range levels {
				total += len(l)
			}
			parts := partsOf(levels)
			hold(t, r, p, depth, len(levels[depth]), total, parts)
			seen[fmt.Sprint("depth", depth)]++
			seen[fmt.Sprint("goes on ", len(levels[depth]) > 0)]++
			seen[fmt.Sprint("turn", p.Turn)]++
			seen[fmt.Sprint("some end ", slices.ContainsFunc(parts, func(part api.PerftPart) bool { return part.Count == 0 }))]++
		}
	}
	for _, what := range []string{"depth0", "depth1", "depth2", "depth3", "depth12", "goes on true", "goes on false", "turn0", "turn1", "some end true", "some end false"} {
		if seen[what] < 20 {
			t.Errorf("%s came up %d times only: %v", what, seen[what], seen)
		}
	}
}

// partsOf returns what Divide should for all sequences, by their length.
func partsOf(levels [][][]api.Move) []api.PerftPart {
	if len(levels) == 1 {
		return nil
	}
	var parts []api.PerftPart
	for _, first := range levels[1] {
		part := api.PerftPart{Move: first[0]}
		for _, l := range levels[len(levels)-1] {
			if l[0] == part.Move {
				part.Count++
			}
		}
		parts = append(parts, part)
	}
	return parts
}

// TestFirstMoves adds up the numbers of the positions after the first moves, and has an error exactly if there are too many sequences.
func TestFirstMoves(t *testing.T) {
	random := rand.New(rand.NewPCG(11, 138))
	seen := map[string]int{}
	for r, p := range games(800) {
		depth := 1 + random.IntN(5)
		if result, _ := ends.Of(r, p); result != api.Open {
			continue
		}
		count, tree, parts := 0, 1, []api.PerftPart{}
		legal, _ := moves.All(r, p)
		for _, m := range legal {
			after, _ := moves.After(r, p, m)
			n, _ := perft.Count(r, after, depth-1)
			more, err := perft.Tree(r, after, depth-1)
			if err != api.OK {
				more = 50000
			}
			count, tree, parts = count+n, tree+more, append(parts, api.PerftPart{Move: m, Count: n})
			if tree > 50000 {
				break
			}
		}
		if tree > 50000 {
			refuse(t, r, p, depth, api.ErrBound)
			seen["too many"]++
			continue
		}
		hold(t, r, p, depth, count, tree, parts)
		seen["few"]++
		if tree > 1000 {
			seen["many"]++
		}
	}
	for _, what := range []string{"few", "many", "too many"} {
		if seen[what] < 20 {
			t.Errorf("there are %s sequences %d times only: %v", what, seen[what], seen)
		}
	}
}

// TestPlayersExchanged has the same numbers from the other side, where the rules treat both players alike.
func TestPlayersExchanged(t *testing.T) {
	seen := 0
	for r, p := range games(400) {
		if r.Falls {
			continue
		}
		other, err := place.Other(r, p)
		if err != api.OK {
			t.Fatalf("Other: %d", err)
		}
		for depth := range 4 {
			count, err := perft.Count(r, p, depth)
			if n, otherErr := perft.Count(r, other, depth); n != count || otherErr != err {
				t.Errorf("Count of %+v by %+v to the depth %d: %d, %d, and for the players exchanged %d, %d", p, r, depth, count, err, n, otherErr)
			}
			tree, err := perft.Tree(r, p, depth)
			if n, otherErr := perft.Tree(r, other, depth); n != tree || otherErr != err {
				t.Errorf("Tree of %+v by %+v to the depth %d: %d, %d, and for the players exchanged %d, %d", p, r, depth, tree, err, n, otherErr)
			}
			if tree > 100 {
				seen++
			}
		}
	}
	if seen < 50 {
		t.Errorf("only %d numbers are greater than 100", seen)
	}
}

// TestP500 counts by rules, and by the rules that are read from their text.
func TestP500(t *testing.T) {
	for r, p := range games(60) {
		text, err := ruletext.Print(r)
		if err != api.OK {
			t.Fatalf("Print(%+v): %d", r, err)
		}
		for depth := range 3 {
			if got, want := view(rulesOf(t, text), p, depth), view(r, p, depth); got != want {
				t.Errorf("by the rules %q: %s, want %s", text, got, want)
			}
		}
	}
}
