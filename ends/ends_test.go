package ends_test

import (
	"fmt"
	"math"
	"math/rand/v2"
	"slices"
	"strings"
	"testing"

	"gamehall/api"
	"gamehall/ends"
	"gamehall/moves"
	"gamehall/place"
	"gamehall/rules"
	"gamehall/testkit"
)

// The tests hold package ends against positions that are written out, against all lines of all boards, against the numbers of games of three in a row, and against a slow definition: the rows, columns and diagonals as texts, and the letters of the text of a position.

// extremes are ints at and beyond all the bounds that occur in the chapter.
var extremes = []int{math.MinInt, math.MinInt + 1, -1000, -64, -8, -2, -1, 0, 1, 2, 3, 4, 5, 6, 7, 8, 9, 63, 64, 65, 199, 200, 201, 999, 1000, 1001, 1 << 32, math.MaxInt - 1, math.MaxInt}

// board returns rules with an empty board and types of pieces that do not move, by their letters.
func board(w, h int, letters string, l ...api.RuleEnd) api.Rules {
	r := api.Rules{Name: "B", Width: w, Height: h, Start: make([]int, w*h), Ends: l}
	for _, letter := range []byte(letters) {
		r.Pieces = append(r.Pieces, api.RulePiece{Letter: letter})
	}
	return r
}

func line(count int) api.RuleEnd {
	return api.RuleEnd{Kind: api.EndLine, Count: count}
}

func reach(kind int) api.RuleEnd {
	return api.RuleEnd{Kind: api.EndReach, Piece: kind}
}

func take(kind, count int) api.RuleEnd {
	return api.RuleEnd{Kind: api.EndTake, Piece: kind, Count: count}
}

// lost returns a condition with which the mover loses.
func lost(e api.RuleEnd) api.RuleEnd {
	e.Loses = true
	return e
}

// expect holds Of against the result of a position that is written out.
func expect(t *testing.T, r api.Rules, position string, want int) {
	t.Helper()
	p, err := place.Read(r, position)
	if err != api.OK {
		t.Fatalf("the text %q of the test has no position: %d, for rules with %d", position, err, rules.Check(r))
	}
	if got, err := ends.Of(r, p); got != want || err != api.OK {
		t.Errorf("Of %q with %+v: %d, %d, want %d", position, r.Ends, got, err, want)
	}
}

// expectBoth holds Of against the results of a board after a move of First, and after one of Second. Both players have a piece to put.
func expectBoth(t *testing.T, r api.Rules, cells string, first, second int) {
	t.Helper()
	hand := string(r.Pieces[0].Letter) + "1"
	expect(t, r, fmt.Sprintf("%s %s %s 2 0", cells, hand, hand), first)
	expect(t, r, fmt.Sprintf("%s %s %s 1 0", cells, hand, hand), second)
}

// A pair is a position with the rules of its game.
type pair struct {
	r api.Rules
	p api.Position
}

// sample returns rules with conditions of all kinds, and a position that satisfies none of them, with numbers off their bounds.
func sample() pair {
	r := board(3, 4, "PNK", line(3), reach(2), lost(take(1, 2)))
	r.Pieces[0].Ways = []api.RuleWay{{DY: 1, Most: 2, Take: api.TakeNever}, {DX: 1, DY: 1, Most: 1, Take: api.TakeMust}}
	r.Pieces[0].Promote = 3
	r.Keeps, r.Blocked, r.Quiet, r.Repeat = true, api.BlockedWins, 50, 3
	return pair{r, api.Position{
		Cells: []int{
			1, 3, 0,
			0, 2, 1,
			3, 1, 4,
			0, 4, 2,
		},
		Hands: [2][]int{{1, 10, 0}, {0, 3, 999}},
		Turn:  1,
		Quiet: 20,
	}}
}

// anyPair returns rules and a position of all kinds. In many of them lines are short, the players have nothing to put and no ways, and as many moves were quiet as the rules permit.
func anyPair(choose func(n int) int) pair {
	r := testkit.AnyRules(choose)
	for i := range r.Ends {
		if r.Ends[i].Count > 0 && choose(4) > 0 {
			r.Ends[i].Count = 1 + choose(4)
		}
	}
	p := testkit.AnyPosition(r, choose)
	if choose(3) > 0 {
		for i := range r.Pieces {
			r.Pieces[i].Ways = nil
		}
		for _, hand := range p.Hands {
			clear(hand)
		}
	}
	if choose(2) == 0 {
		p.Quiet = min(max(r.Quiet-1+choose(3), 0), api.MaxQuiet)
	}
	return pair{r, p}
}

// all returns the sample and so many positions of all kinds, the same for each call.
func all(n int) []pair {
	l := []pair{sample()}
	random := rand.New(rand.NewPCG(7, 126))
	for range n {
		l = append(l, anyPair(random.IntN))
	}
	return l
}

// slowOf returns the result of a position, and why it is the result.
func slowOf(c pair) (int, string) {
	turn := []int{api.WinsFirst, api.WinsSecond}[c.p.Turn]
	mover := []int{api.WinsSecond, api.WinsFirst}[c.p.Turn]
	for _, e := range c.r.Ends {
		is := []func(pair, api.RuleEnd) bool{slowLine, slowReach, slowTake}[e.Kind](c, e)
		why := fmt.Sprint("condition ", e.Kind)
		if is && e.Loses {
			return turn, why
		} else if is {
			return mover, why
		}
	}
	if c.r.Quiet > 0 && !(c.p.Quiet < c.r.Quiet) {
		return api.Draw, "quiet"
	}
	if l, _ := moves.All(c.r, c.p); len(l) != 0 {
		return api.Open, "open"
	}
	return map[int]int{api.BlockedLoses: mover, api.BlockedWins: turn, api.BlockedDraws: api.Draw}[c.r.Blocked], fmt.Sprint("blocked ", c.r.Blocked)
}

// slowLine writes each row, column and diagonal as a text, with a * for each piece of the mover.
func slowLine(c pair, e api.RuleEnd) bool {
	texts := map[string]string{}
	for square, cell := range c.p.Cells {
		x, y := square%c.r.Width, square/c.r.Width
		mark := "."
		if cell > 0 && (cell%2 == 1) == (c.p.Turn == api.Second) {
			mark = "*"
		}
		for _, name := range []string{fmt.Sprint("row ", y), fmt.Sprint("column ", x), fmt.Sprint("rising ", x-y), fmt.Sprint("falling ", x+y)} {
			texts[name] += mark
		}
	}
	for _, text := range texts {
		if strings.Contains(text, strings.Repeat("*", e.Count)) {
			return true
		}
	}
	return false
}

func slowReach(c pair, e api.RuleEnd) bool {
	mover := []int{api.Second, api.First}[c.p.Turn]
	for square, cell := range c.p.Cells {
		if is, _ := rules.Last(c.r, mover, square); is && cell == []int{1, 2}[mover]+2*e.Piece {
			return true
		}
	}
	return false
}

// slowTake counts the letters in the text of a position.
func slowTake(c pair, e api.RuleEnd) bool {
	text, _ := place.Text(c.r, c.p)
	cells, _, _ := strings.Cut(text, " ")
	letter := string(c.r.Pieces[e.Piece].Letter)
	if c.p.Turn == api.Second {
		letter = strings.ToLower(letter)
	}
	return strings.Count(cells, letter) < e.Count
}

// hold holds Of against the slow definition, and returns what that one says.
func hold(t *testing.T, c pair) (int, string) {
	t.Helper()
	want, why := slowOf(c)
	if got, err := ends.Of(c.r, c.p); got != want || err != api.OK {
		t.Fatalf("Of(%+v, %+v): %d, %d, want %d: %s", c.r, c.p, got, err, want, why)
	}
	return want, why
}

func TestSample(t *testing.T) {
	c := sample()
	if result, why := hold(t, c); result != api.Open {
		t.Errorf("the sample ends with %d: %s", result, why)
	}
}

// TestP118Wrong has wrong rules with positions that are right and wrong, and wrong positions of right rules.
func TestP118Wrong(t *testing.T) {
	seen := map[string]int{}
	test := func(r api.Rules, p api.Position) {
		t.Helper()
		want := place.Check(r, p)
		if want == api.OK {
			hold(t, pair{r, p})
		} else if got, err := ends.Of(r, p); got != 0 || err != want {
			t.Errorf("Of(%+v, %+v): %d, %d, want 0, %d", r, p, got, err, want)
		}
		seen[fmt.Sprint(rules.Check(r) == api.OK, want)]++
	}
	c := sample()
	for r, p := range testkit.Changed(c.r, c.p, extremes) {
		test(r, p)
		test(r, api.Position{})
	}
	for _, change := range []func(r *api.Rules, p *api.Position){
		func(r *api.Rules, p *api.Position) { *r = api.Rules{} },
		func(r *api.Rules, p *api.Position) { r.Name = "a" },
		func(r *api.Rules, p *api.Position) { r.Pieces = nil },
		func(r *api.Rules, p *api.Position) { r.Pieces = slices.Repeat(r.Pieces, 3) },
		func(r *api.Rules, p *api.Position) { r.Pieces[2].Letter = 'P' },
		func(r *api.Rules, p *api.Position) { r.Start = nil },
		func(r *api.Rules, p *api.Position) { r.Ends = slices.Repeat(r.Ends, 3) },
		func(r *api.Rules, p *api.Position) { r.Ends[2].Kind, p.Cells[10] = 3, 0 },
		func(r *api.Rules, p *api.Position) { *p = api.Position{} },
		func(r *api.Rules, p *api.Position) { p.Cells = p.Cells[:11] },
		func(r *api.Rules, p *api.Position) { p.Cells = append(p.Cells, 0) },
		func(r *api.Rules, p *api.Position) { p.Hands[0] = nil },
		func(r *api.Rules, p *api.Position) { p.Hands[1] = p.Hands[1][:2] },
		func(r *api.Rules, p *api.Position) { p.Turn, p.Hands[1] = 2, nil },
		// A position that would be over, but for what is wrong with it.
		func(r *api.Rules, p *api.Position) { p.Cells[3], p.Quiet = 1, 201 },
		func(r *api.Rules, p *api.Position) { p.Cells[10], p.Hands[1][2] = 0, 1001 },
	} {
		c := sample()
		change(&c.r, &c.p)
		test(c.r, c.p)
	}
	for _, err := range []api.Errno{api.ErrName, api.ErrRange, api.ErrNone, api.ErrLarge, api.ErrTwice, api.ErrForm, api.ErrArg} {
		if seen[fmt.Sprint(false, err)] == 0 {
			t.Errorf("the error %d of rules did not come up: %v", err, seen)
		}
	}
	for _, err := range []api.Errno{api.OK, api.ErrForm, api.ErrRange} {
		if seen[fmt.Sprint(true, err)] < 5 {
			t.Errorf("the error %d of positions came up too seldom: %v", err, seen)
		}
	}
}

func TestP126Example(t *testing.T) {
	r := board(3, 3, "A", line(3))
	expect(t, r, "3/3/AAA A2 A3 2 0", api.WinsFirst)
	expect(t, r, "3/3/AAA A2 A3 1 0", api.Open)
}

// TestP126Mover has lines of one player, of both, and of nobody, with the turn of each player.
func TestP126Mover(t *testing.T) {
	r := board(3, 3, "A", line(3))
	for _, c := range []struct {
		cells         string
		first, second int
	}{
		{"3/3/3", api.Open, api.Open},
		{"3/3/AAA", api.WinsFirst, api.Open},
		{"AAA/3/3", api.WinsFirst, api.Open},
		{"3/3/aaa", api.Open, api.WinsSecond},
		{"aaa/3/3", api.Open, api.WinsSecond},
		{"AAA/3/aaa", api.WinsFirst, api.WinsSecond},
		{"aaa/3/AAA", api.WinsFirst, api.WinsSecond},
		{"3/AaA/3", api.Open, api.Open},
		{"3/aAa/3", api.Open, api.Open},
		{"3/1AA/3", api.Open, api.Open},
	} {
		expectBoth(t, r, c.cells, c.first, c.second)
	}
}

// TestP126Beginning has games that are over at their beginnings, where Second is the mover.
func TestP126Beginning(t *testing.T) {
	for _, c := range []struct {
		r     api.Rules
		start []int
		want  int
	}{
		{board(3, 2, "A", line(3)), []int{1, 1, 1, 0, 0, 0}, api.Open},
		{board(3, 2, "A", line(3)), []int{2, 2, 2, 0, 0, 0}, api.WinsSecond},
		{board(3, 2, "A", line(3)), []int{1, 1, 1, 2, 2, 2}, api.WinsSecond},
		{board(3, 2, "A", lost(line(3))), []int{1, 1, 1, 2, 2, 2}, api.WinsFirst},
		{board(3, 2, "A", reach(0)), []int{0, 0, 0, 1, 0, 0}, api.Open},
		{board(3, 2, "A", reach(0)), []int{0, 2, 0, 1, 0, 0}, api.WinsSecond},
		{board(3, 2, "A", take(0, 1)), []int{0, 0, 0, 1, 0, 0}, api.Open},
		{board(3, 2, "A", take(0, 1)), []int{0, 0, 2, 0, 0, 0}, api.WinsSecond},
		{board(3, 2, "A", take(0, 1)), []int{0, 0, 0, 0, 0, 0}, api.WinsSecond},
	} {
		c.r.Start, c.r.Pieces[0].Hand = c.start, 1
		p, _ := place.Begin(c.r)
		if got, err := ends.Of(c.r, p); got != c.want || err != api.OK {
			t.Errorf("Of the beginning of %+v: %d, %d, want %d", c.r, got, err, c.want)
		}
	}
}

// TestP126LineOfAnyTypes has lines of pieces of different types.
func TestP126LineOfAnyTypes(t *testing.T) {
	r := board(6, 2, "ABCDEF", line(4))
	expectBoth(t, r, "ABCDEF/6", api.WinsFirst, api.Open)
	expectBoth(t, r, "6/fedcba", api.Open, api.WinsSecond)
	expectBoth(t, r, "1FABF1/6", api.WinsFirst, api.Open)
	expectBoth(t, r, "FAb1BF/6", api.Open, api.Open)
	expectBoth(t, r, "AaBbCc/ABcd1F", api.Open, api.Open)
}

// TestP126LineLengths has lines in a row of 8 squares, and all numbers of pieces.
func TestP126LineLengths(t *testing.T) {
	for count := 1; count <= 64; count++ {
		for _, e := range []api.RuleEnd{line(count), lost(line(count))} {
			r := board(8, 8, "A", e)
			for n := range 9 {
				wins := []int{api.WinsFirst, api.WinsSecond}
				if e.Loses {
					wins = []int{api.WinsSecond, api.WinsFirst}
				}
				for from := range 8 - n + 1 {
					row := []int{40, 41, 42, 43, 44, 45, 46, 47}[from : from+n]
					for mover, want := range wins {
						if n < count {
							want = api.Open
						}
						if got, err := ends.Of(r, with(r, 1-mover, 1+mover, row)); got != want || err != api.OK {
							t.Errorf("Of pieces on %v with %+v: %d, %d, want %d", row, e, got, err, want)
						}
					}
				}
			}
		}
	}
	// No row, column or diagonal has nine squares, not even of a full board.
	full := strings.Repeat("AAAAAAAA/", 7) + "AAAAAAAA"
	for _, c := range []struct{ count, want int }{{8, api.WinsFirst}, {9, api.Draw}, {63, api.Draw}, {64, api.Draw}} {
		r := board(8, 8, "A", line(c.count))
		r.Blocked = api.BlockedDraws
		expect(t, r, full+" - - 2 0", c.want)
	}
}

// lines returns the squares of all lines of a number of squares, by their first square and direction.
func lines(w, h, count int) [][]int {
	var l [][]int
	for y := range h {
		for x := range w {
			for _, d := range [][2]int{{1, 0}, {0, 1}, {1, 1}, {-1, 1}} {
				endX, endY := x+(count-1)*d[0], y+(count-1)*d[1]
				if endX < 0 || endX >= w || endY >= h {
					continue
				}
				var squares []int
				for n := range count {
					squares = append(squares, (y+n*d[1])*w+x+n*d[0])
				}
				l = append(l, squares)
			}
		}
	}
	return l
}

// with returns a position with a cell on some squares. Its players have a piece to put, but it has no place if the board is full.
func with(r api.Rules, turn, cell int, squares []int) api.Position {
	p := api.Position{Cells: make([]int, r.Width*r.Height), Hands: [2][]int{{1}, {1}}, Turn: turn}
	for _, s := range squares {
		p.Cells[s] = cell
	}
	return p
}

// TestP126AllLines has each line of each board.
func TestP126AllLines(t *testing.T) {
	tried := 0
	for _, size := range testkit.Boards() {
		for count := 1; count <= 8; count++ {
			for i, squares := range lines(size[0], size[1], count) {
				tryLine(t, size[0], size[1], squares, i%2)
				tried++
			}
		}
	}
	if tried < 14000 {
		t.Errorf("there were %d lines only", tried)
	}
}

// tryLine has a line of a mover: whole, longer than needed, shorter than needed, with a hole, and with a piece of the opponent.
func tryLine(t *testing.T, w, h int, squares []int, mover int) {
	t.Helper()
	count, wins := len(squares), []int{api.WinsFirst, api.WinsSecond}[mover]
	check := func(what string, needed, want int, p api.Position) {
		t.Helper()
		r := board(w, h, "A", line(needed))
		r.Blocked = api.BlockedDraws
		if want == api.Open && !slices.Contains(p.Cells, 0) {
			want = api.Draw
		}
		if got, err := ends.Of(r, p); got != want || err != api.OK {
			t.Fatalf("Of %s of %v on a board of %d by %d, of which %d are needed: %d, %d, want %d", what, squares, w, h, needed, got, err, want)
		}
	}
	r := board(w, h, "A")
	whole := with(r, 1-mover, mover+1, squares)
	check("a line", count, wins, whole)
	check("a line", max(count-1, 1), wins, whole)
	check("a line", count+1, api.Open, whole)
	whole.Turn = mover
	check("a line of the other player", count, api.Open, whole)
	broken := with(r, 1-mover, mover+1, squares)
	for _, s := range squares {
		for _, cell := range []int{0, 2 - mover} {
			broken.Cells[s] = cell
			check("a line without a square", count, api.Open, broken)
		}
		broken.Cells[s] = mover + 1
	}
}

// TestP126PairsOfSquares has two pieces on all pairs of squares of all boards: only those of neighbours are lines, not those whose numbers are close, or that are in line with a gap.
func TestP126PairsOfSquares(t *testing.T) {
	for _, size := range testkit.Boards() {
		w, h := size[0], size[1]
		r := board(w, h, "A", line(2))
		r.Blocked = api.BlockedDraws
		for a := range w * h {
			for b := range a {
				dx, dy := a%w-b%w, a/w-b/w
				want := max(dx, -dx) <= 1 && max(dy, -dy) <= 1
				got, err := ends.Of(r, with(r, api.Second, 1, []int{a, b}))
				if (got == api.WinsFirst) != want || got == api.WinsSecond || err != api.OK {
					t.Fatalf("Of the squares %d and %d of a board of %d by %d: %d, %d, want a win: %t", a, b, w, h, got, err, want)
				}
			}
		}
	}
}

// TestP126AllBoards has all boards of some sizes with two types of cells, and all numbers.
func TestP126AllBoards(t *testing.T) {
	for _, size := range [][2]int{{1, 1}, {1, 2}, {2, 1}, {2, 2}, {3, 2}, {2, 3}, {4, 2}, {2, 4}, {1, 6}, {6, 1}, {3, 3}, {5, 2}} {
		w, h := size[0], size[1]
		for count := 1; count <= 6; count++ {
			r := board(w, h, "A", line(count))
			r.Blocked = api.BlockedDraws
			for set := range 1 << (w * h) {
				p := api.Position{Cells: make([]int, w*h), Hands: [2][]int{{0}, {0}}, Turn: set % 2}
				for s := range p.Cells {
					p.Cells[s] = 1 + set>>s&1
				}
				hold(t, pair{r, p})
			}
		}
	}
}

// TestP126NoBentLines has pieces that are connected, or in line with gaps, and not consecutive.
func TestP126NoBentLines(t *testing.T) {
	for _, cells := range []string{
		"4/4/AA2/2AA", "4/A3/A3/1AA1", "1A2/1A2/A3/A3", "2AA/4/4/AA2", "A1A1/1A2/2A1/A1A1", "A2A/4/4/A2A",
		"AAA1/AAA1/AAA1/4", "1AAA/1AAA/1AAA/4", "4/AAA1/AAA1/AAA1",
		"AA1A/A1AA/4/4", "AA1A/4/4/AA1A", "1A2/3A/A3/2A1",
		// The numbers of the squares are 3 to 6, 0 to 9 by threes, and 6 to 15 by threes.
		"4/4/AAA1/3A", "4/1A2/2A1/A2A", "A2A/1A2/2A1/4",
	} {
		expectBoth(t, board(4, 4, "A", line(4)), cells, api.Open, api.Open)
		expectBoth(t, board(4, 4, "A", line(4)), strings.ToLower(cells), api.Open, api.Open)
	}
}

func TestP126Reach(t *testing.T) {
	r := board(3, 3, "AB", reach(1))
	for _, c := range []struct {
		cells         string
		first, second int
	}{
		{"B2/3/3", api.WinsFirst, api.Open},
		{"1B1/3/3", api.WinsFirst, api.Open},
		{"2B/3/3", api.WinsFirst, api.Open},
		{"BBB/3/3", api.WinsFirst, api.Open},
		{"3/BBB/BBB", api.Open, api.Open},
		{"3/3/b2", api.Open, api.WinsSecond},
		{"3/3/1b1", api.Open, api.WinsSecond},
		{"3/3/2b", api.Open, api.WinsSecond},
		{"bbb/bbb/3", api.Open, api.Open},
		// Other types and pieces of the other player.
		{"AAA/a1a/aaa", api.Open, api.Open},
		{"aaa/A1A/AAA", api.Open, api.Open},
		{"bbb/3/BBB", api.Open, api.Open},
		{"BaB/3/bAb", api.WinsFirst, api.WinsSecond},
	} {
		r.Ends[0].Loses = false
		expectBoth(t, r, c.cells, c.first, c.second)
		r.Ends[0].Loses = true
		exchanged := []int{api.Open, api.WinsSecond, api.WinsFirst}
		expectBoth(t, r, c.cells, exchanged[c.first], exchanged[c.second])
	}
	// On a board of one row each square is on the last row of both players.
	low := board(3, 1, "AB", reach(0))
	expectBoth(t, low, "A2", api.WinsFirst, api.Open)
	expectBoth(t, low, "2a", api.Open, api.WinsSecond)
	expectBoth(t, low, "a1A", api.WinsFirst, api.WinsSecond)
	expectBoth(t, low, "b1B", api.Open, api.Open)
}

// TestP126ReachAllSquares has one piece of each kind on each square of each board.
func TestP126ReachAllSquares(t *testing.T) {
	for _, size := range testkit.Boards() {
		for _, kind := range []int{0, 2, 5} {
			r := board(size[0], size[1], "ABCDEF", reach(kind))
			r.Blocked = api.BlockedDraws
			for square := range r.Start {
				for cell := 1; cell <= 12; cell++ {
					tryReach(t, r, square, cell)
				}
			}
		}
	}
}

// tryReach has a board with one piece only.
func tryReach(t *testing.T, r api.Rules, square, cell int) {
	t.Helper()
	p := api.Position{Cells: slices.Clone(r.Start), Hands: [2][]int{make([]int, 6), make([]int, 6)}}
	p.Cells[square] = cell
	kind := r.Ends[0].Piece
	wants := [2]int{api.Draw, api.Draw}
	if cell == 2*kind+2 && square < r.Width {
		wants[api.First] = api.WinsSecond
	}
	if cell == 2*kind+1 && square >= r.Width*(r.Height-1) {
		wants[api.Second] = api.WinsFirst
	}
	for turn, want := range wants {
		p.Turn = turn
		if got, err := ends.Of(r, p); got != want || err != api.OK {
			t.Fatalf("Of a piece %d on the square %d of a board of %d by %d with the turn of %d: %d, %d, want %d", cell, square, r.Width, r.Height, turn, got, err, want)
		}
	}
}

func TestP126Take(t *testing.T) {
	for _, c := range []struct {
		kind, count   int
		cells         string
		first, second int
	}{
		// Of the opponent's pieces only those of the type count, and only on the board: both hands have pieces A.
		{0, 1, "3/3", api.WinsFirst, api.WinsSecond},
		{0, 1, "A2/3", api.WinsFirst, api.Open},
		{0, 1, "a2/3", api.Open, api.WinsSecond},
		{0, 1, "A2/2a", api.Open, api.Open},
		{0, 1, "BBb/b2", api.WinsFirst, api.WinsSecond},
		{0, 2, "A2/2a", api.WinsFirst, api.WinsSecond},
		{0, 2, "AA1/2a", api.WinsFirst, api.Open},
		{0, 2, "A2/1aa", api.Open, api.WinsSecond},
		{0, 2, "aAb/Aa1", api.Open, api.Open},
		{1, 3, "BBb/b2", api.WinsFirst, api.WinsSecond},
		{1, 3, "BBb/bb1", api.Open, api.WinsSecond},
		{1, 3, "B1B/baB", api.WinsFirst, api.Open},
		{1, 3, "BBB/bb1", api.WinsFirst, api.Open},
		{0, 64, "aaa/aa1", api.WinsFirst, api.WinsSecond},
		{1, 5, "BBB/BB1", api.WinsFirst, api.Open},
		{1, 5, "bbb/bb1", api.Open, api.WinsSecond},
		{1, 5, "bbb/1b1", api.WinsFirst, api.WinsSecond},
	} {
		expectBoth(t, board(3, 2, "AB", take(c.kind, c.count)), c.cells, c.first, c.second)
		exchanged := []int{api.Open, api.WinsSecond, api.WinsFirst}
		expectBoth(t, board(3, 2, "AB", lost(take(c.kind, c.count))), c.cells, exchanged[c.first], exchanged[c.second])
	}
}

// TestP126TakeCounts has all numbers of pieces on a board of 64 squares, and all counts.
func TestP126TakeCounts(t *testing.T) {
	for n := range 65 {
		for count := 1; count <= 64; count++ {
			r := board(8, 8, "A", take(0, count))
			r.Blocked = api.BlockedDraws
			p := api.Position{Cells: make([]int, 64), Hands: [2][]int{{0}, {0}}, Turn: n % 2}
			want := api.Draw
			if n < count {
				want = []int{api.WinsSecond, api.WinsFirst}[p.Turn]
			}
			for i := range p.Cells {
				// Those of the mover fill the rest of the board.
				p.Cells[(i*13+n)%64] = 2 - p.Turn
				if i < n {
					p.Cells[(i*13+n)%64] = 1 + p.Turn
				}
			}
			if got, err := ends.Of(r, p); got != want || err != api.OK {
				t.Errorf("Of %d pieces with %d needed: %d, %d, want %d", n, count, got, err, want)
			}
		}
	}
}

// TestP126Order has conditions in all orders, of which the first one that is satisfied decides.
func TestP126Order(t *testing.T) {
	// After a move of First all of the first ones are satisfied, and none of the others.
	satisfied := []api.RuleEnd{line(3), reach(1), take(1, 2), line(1), take(0, 64)}
	others := []api.RuleEnd{line(4), reach(0), take(1, 1), take(0, 3)}
	const position = "1B1/AAA/aab/a2 A1 A1 2 0"
	for _, a := range satisfied {
		expect(t, board(3, 4, "AB", a), position, api.WinsFirst)
		expect(t, board(3, 4, "AB", lost(a)), position, api.WinsSecond)
		for _, b := range satisfied {
			expect(t, board(3, 4, "AB", a, lost(b)), position, api.WinsFirst)
			expect(t, board(3, 4, "AB", lost(a), b), position, api.WinsSecond)
			expect(t, board(3, 4, "AB", a, lost(b), lost(b), lost(b), lost(b), lost(b)), position, api.WinsFirst)
		}
		for _, c := range others {
			expect(t, board(3, 4, "AB", c), position, api.Open)
			expect(t, board(3, 4, "AB", lost(c)), position, api.Open)
			expect(t, board(3, 4, "AB", c, lost(a)), position, api.WinsSecond)
			expect(t, board(3, 4, "AB", lost(c), a), position, api.WinsFirst)
			expect(t, board(3, 4, "AB", lost(c), lost(c), lost(c), lost(c), lost(c), a), position, api.WinsFirst)
			expect(t, board(3, 4, "AB", lost(c), a, lost(c), lost(a)), position, api.WinsFirst)
			expect(t, board(3, 4, "AB", c, lost(a), c, a), position, api.WinsSecond)
		}
	}
}

// TestP126BeforeTheRest has positions that satisfy a condition, are quiet, and have no move.
func TestP126BeforeTheRest(t *testing.T) {
	for blocked := api.BlockedLoses; blocked <= api.BlockedDraws; blocked++ {
		for _, e := range []api.RuleEnd{line(2), reach(0), take(0, 64)} {
			r := board(2, 2, "A", e)
			r.Blocked, r.Quiet = blocked, 1
			expect(t, r, "AA/aa - - 2 200", api.WinsFirst)
			expect(t, r, "AA/aa - - 1 200", api.WinsSecond)
			r.Ends[0].Loses = true
			expect(t, r, "AA/aa - - 2 200", api.WinsSecond)
			expect(t, r, "AA/aa - - 1 200", api.WinsFirst)
		}
	}
}

func TestP127Quiet(t *testing.T) {
	for _, c := range []struct{ limit, quiet, want int }{
		{0, 0, api.Open}, {0, 1, api.Open}, {0, 199, api.Open}, {0, 200, api.Open},
		{1, 0, api.Open}, {1, 1, api.Draw}, {1, 2, api.Draw}, {1, 200, api.Draw},
		{50, 0, api.Open}, {50, 49, api.Open}, {50, 50, api.Draw}, {50, 51, api.Draw}, {50, 200, api.Draw},
		{199, 198, api.Open}, {199, 199, api.Draw}, {199, 200, api.Draw},
		{200, 0, api.Open}, {200, 199, api.Open}, {200, 200, api.Draw},
	} {
		r := board(2, 2, "A", line(2))
		r.Quiet = c.limit
		for turn := 1; turn <= 2; turn++ {
			expect(t, r, fmt.Sprintf("1a/A1 A1 A1 %d %d", turn, c.quiet), c.want)
		}
	}
}

// TestP127QuietBeforeBlocked has positions without a legal move that are quiet.
func TestP127QuietBeforeBlocked(t *testing.T) {
	for blocked := api.BlockedLoses; blocked <= api.BlockedDraws; blocked++ {
		r := board(2, 1, "A")
		r.Blocked, r.Quiet = blocked, 7
		for turn := 1; turn <= 2; turn++ {
			for quiet := range 201 {
				want := api.Draw
				if quiet < 7 {
					want = [][]int{{api.WinsSecond, api.WinsFirst}, {api.WinsFirst, api.WinsSecond}, {api.Draw, api.Draw}}[blocked][turn-1]
				}
				expect(t, r, fmt.Sprintf("Aa - - %d %d", turn, quiet), want)
			}
		}
	}
}

// TestP127RepeatDoesNotMatter has a position that may have occurred before, which it does not tell.
func TestP127RepeatDoesNotMatter(t *testing.T) {
	for _, repeat := range []int{0, 2, 3, 4, 5} {
		r := board(2, 1, "A")
		r.Repeat = repeat
		expectBoth(t, r, "A1", api.Open, api.Open)
		expect(t, r, "A1 - - 1 200", api.WinsSecond)
	}
}

// TestP127Blocked has positions in which one player, both or nobody can move. Only the moves of the player whose turn it is matter.
func TestP127Blocked(t *testing.T) {
	for _, c := range []struct {
		position      string
		first, second bool // whether they are blocked if it is their turn
	}{
		{"2/2 - -", true, true},
		{"2/2 A1 -", false, true},
		{"2/2 - B1", true, false},
		{"2/2 A1000 B1", false, false},
		{"AA/aa A1 A1", true, true},
		{"AA/a1 A1 A1", false, false},
		{"AA/a1 - B3", true, false},
		{"2/2 C1 C1", false, false},
		// B moves up, for Second down, and takes there; A does not move.
		{"2/B1 - -", false, true},
		{"B1/2 - -", true, true},
		{"2/b1 - -", true, true},
		{"b1/2 - -", true, false},
		{"B1/b1 - -", true, true},
		{"a1/B1 - -", false, true},
		{"b1/B1 - -", false, false},
		{"A1/B1 - -", true, true},
		{"b1/a1 - -", true, true},
		{"b1/A1 - -", true, false},
		{"AA/AA - -", true, true},
		// C moves to the right, and takes only.
		{"2/C1 - -", true, true},
		{"2/Ca - -", false, true},
		{"2/CA - -", true, true},
		{"2/cA - -", true, false},
		{"Ca/aC A9 A9", false, true},
	} {
		for blocked, results := range [][2]int{{api.WinsSecond, api.WinsFirst}, {api.WinsFirst, api.WinsSecond}, {api.Draw, api.Draw}} {
			r := board(2, 2, "ABC")
			r.Pieces[1].Ways = []api.RuleWay{{DY: 1, Most: 1, Take: api.TakeMay}}
			r.Pieces[2].Ways = []api.RuleWay{{DX: 1, Most: 1, Take: api.TakeMust}}
			r.Blocked = blocked
			for turn, is := range []bool{c.first, c.second} {
				want := api.Open
				if is {
					want = results[turn]
				}
				expect(t, r, fmt.Sprintf("%s %d 0", c.position, turn+1), want)
			}
		}
	}
}

// TestP127Full has three in a row on boards that are full.
func TestP127Full(t *testing.T) {
	for blocked, want := range []int{api.WinsFirst, api.WinsSecond, api.Draw} {
		r := board(3, 3, "A", line(3))
		r.Blocked = blocked
		expect(t, r, "aAA/Aaa/aAA - A1 2 0", want)
		expect(t, r, "aAA/Aaa/1AA - A1 2 0", api.Open)
		// The last piece makes a line.
		expect(t, r, "aAA/aaA/AAA - A1 2 0", api.WinsFirst)
		r.Ends[0].Loses = true
		expect(t, r, "aAA/aaA/AAA - A1 2 0", api.WinsSecond)
	}
}

// TestP127Falls has pieces that fall: as long as a square is empty, also one with pieces above it, some square can be filled.
func TestP127Falls(t *testing.T) {
	r := board(2, 3, "A", line(3))
	r.Falls = true
	for _, cells := range []string{"2/2/2", "1a/AA/Aa", "Aa/1A/aA", "Aa/Aa/1A", "A1/1a/aA", "Aa/2/Aa"} {
		expect(t, r, cells+" A1 A1 1 0", api.Open)
	}
	expect(t, r, "aA/aA/Aa A1 A1 1 0", api.WinsSecond)
	expect(t, r, "aA/aA/Aa A1 A1 2 0", api.WinsFirst)
	expect(t, r, "1A/aA/Aa - A1 1 0", api.WinsSecond)
}

// TestSlow has positions of all kinds.
func TestSlow(t *testing.T) {
	seen := map[string]int{}
	for _, c := range all(6000) {
		result, why := hold(t, c)
		seen[fmt.Sprint(why, " of ", c.p.Turn, " ends with ", result)]++
	}
	for turn := range 2 {
		for _, why := range []string{"condition 0", "condition 1", "condition 2", "blocked 0", "blocked 1", "blocked 2", "quiet", "open"} {
			results := []int{api.WinsFirst, api.WinsSecond}
			switch why {
			case "open":
				results = []int{api.Open}
			case "blocked 2", "quiet":
				results = []int{api.Draw}
			case "blocked 0":
				results = []int{[]int{api.WinsSecond, api.WinsFirst}[turn]}
			case "blocked 1":
				results = []int{[]int{api.WinsFirst, api.WinsSecond}[turn]}
			}
			for _, result := range results {
				if what := fmt.Sprint(why, " of ", turn, " ends with ", result); seen[what] < 10 {
					t.Errorf("%s came up %d times only: %v", what, seen[what], seen)
				}
			}
		}
	}
}

// TestOther has positions in which the players are exchanged: so are their results, with Falls, too, since a piece can be put as long as any square is empty.
func TestOther(t *testing.T) {
	exchanged := []int{api.Open, api.WinsSecond, api.WinsFirst, api.Draw}
	for _, c := range all(1500) {
		m, _ := rules.Mirror(c.r)
		o, _ := place.Other(c.r, c.p)
		result, _ := hold(t, c)
		if got, err := ends.Of(m, o); got != exchanged[result] || err != api.OK {
			t.Fatalf("Of(%+v, %+v): %d, %d, and from the other side %d", c.r, c.p, result, err, got)
		}
	}
}

// TestThreeInARow counts the positions and the games of three in a row on a board of 3 by 3, by their results.
func TestThreeInARow(t *testing.T) {
	r := board(3, 3, "A", line(3))
	r.Pieces[0].Hand, r.Blocked = 5, api.BlockedDraws
	games := map[string][4]int{} // by the text of the position from which they go on
	positions := [4]int{}
	var play func(p api.Position) [4]int
	play = func(p api.Position) [4]int {
		text, _ := place.Text(r, p)
		if known, is := games[text]; is {
			return known
		}
		var n [4]int
		result, err := ends.Of(r, p)
		if err != api.OK {
			t.Fatalf("Of %q: %d", text, err)
		}
		positions[result]++
		if result != api.Open {
			n[result] = 1
		} else {
			l, _ := moves.All(r, p)
			for _, m := range l {
				q, _ := moves.After(r, p, m)
				for i, more := range play(q) {
					n[i] += more
				}
			}
		}
		games[text] = n
		return n
	}
	begin, _ := place.Begin(r)
	if got, want := play(begin), [4]int{0, 131184, 77904, 46080}; got != want {
		t.Errorf("there are %v games, want %v", got, want)
	}
	if want := [4]int{5478 - 958, 626, 316, 16}; positions != want {
		t.Errorf("there are %v positions, want %v", positions, want)
	}
}
