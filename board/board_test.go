package board_test

import (
	"fmt"
	"iter"
	"math"
	"math/rand/v2"
	"slices"
	"strings"
	"testing"

	"gamehall/api"
	"gamehall/board"
	"gamehall/ends"
	"gamehall/moves"
	"gamehall/place"
	"gamehall/rules"
	"gamehall/ruletext"
	"gamehall/testkit"
	"gamehall/zob"
)

// The tests hold package board against games that are written out, with keys that were computed outside the program, against what the lower layers have for the same position, against the known numbers of games of three in a row, and against a slow board that plays all its moves again for each question.

// extremes are ints at and beyond all the bounds that occur in the chapter.
var extremes = []int{math.MinInt, math.MinInt + 1, -1000, -64, -8, -2, -1, 0, 1, 2, 3, 5, 6, 7, 8, 63, 64, 65, 199, 200, 201, 399, 400, 401, 999, 1000, 1001, 1 << 32, math.MaxInt - 1, math.MaxInt}

const (
	sampleRules    = testkit.CampRules
	samplePosition = testkit.CampPosition
)

func rulesOf(t *testing.T, text string) api.Rules {
	t.Helper()
	r, err := ruletext.Parse(text)
	if err != api.OK {
		t.Fatalf("the text %q of the test has no rules: %d", text, err)
	}
	return r
}

// read returns the position with a text.
func read(t *testing.T, r api.Rules, s string) api.Position {
	t.Helper()
	p, err := place.Read(r, s)
	if err != api.OK {
		t.Fatalf("the text %q of the test has no position: %d, for rules with %d", s, err, rules.Check(r))
	}
	return p
}

func sample() (api.Rules, api.Position) {
	r, _ := ruletext.Parse(sampleRules)
	p, _ := place.Read(r, samplePosition)
	return r, p
}

// three returns the rules of three in a row on a board of 3 by 3, and their beginning.
func three() (api.Rules, api.Position) {
	r := testkit.Three()
	p, _ := place.Begin(r)
	return r, p
}

// games returns an iterator over the sample, the beginning of its game, and so many positions of all kinds, the same for each call. In many of them conditions are few, and no move is taken for quiet, so that games are long.
func games(n int) iter.Seq2[api.Rules, api.Position] {
	return func(yield func(api.Rules, api.Position) bool) {
		r, p := sample()
		begin, _ := place.Begin(r)
		random := rand.New(rand.NewPCG(9, 131))
		for goOn, left := yield(r, p) && yield(r, begin), n; goOn && left > 0; left-- {
			r, p := testkit.AnyGame(random.IntN)
			if random.IntN(3) > 0 {
				r.Ends, r.Quiet = r.Ends[:min(len(r.Ends), random.IntN(2))], 0
			}
			goOn = yield(r, p)
		}
	}
}

// open returns a board with a position that is right.
func open(t *testing.T, r api.Rules, p api.Position) *board.Board {
	t.Helper()
	b, err := board.New(r, p)
	if b == nil || err != api.OK {
		t.Fatalf("New(%+v, %+v): %v, %d", r, p, b, err)
	}
	return b
}

// view tells all that the methods of a board return.
func view(b *board.Board) string {
	return fmt.Sprint(b.Position(), b.Key(), b.Moves(), b.Result(), b.Turn(), b.Len())
}

// viewOf tells what they should return for a position after so many moves, by the lower layers.
func viewOf(r api.Rules, p api.Position, n int) string {
	key, _ := zob.Key(r, p)
	result, _ := ends.Of(r, p)
	l, _ := moves.All(r, p)
	if result != api.Open {
		l = nil
	}
	return fmt.Sprint(p, key, l, result, p.Turn, n)
}

// expect holds all methods of a board against a position.
func expect(t *testing.T, b *board.Board, r api.Rules, p api.Position, n int) {
	t.Helper()
	if got, want := view(b), viewOf(r, p, n); got != want {
		t.Fatalf("a board by %+v has %s, want %s", r, got, want)
	}
}

// do makes a move that has no error.
func do(t *testing.T, b *board.Board, m api.Move) {
	t.Helper()
	if err := b.Do(m); err != api.OK {
		t.Fatalf("Do(%v) at %s: %d", m, view(b), err)
	}
}

// undo takes back so many moves.
func undo(t *testing.T, b *board.Board, n int) {
	t.Helper()
	for range n {
		if err := b.Undo(); err != api.OK {
			t.Fatalf("Undo at %s: %d", view(b), err)
		}
	}
}

// refuse has a move with an error, and looks whether it has an effect.
func refuse(t *testing.T, b *board.Board, m api.Move, want api.Errno) {
	t.Helper()
	before := view(b)
	if err := b.Do(m); err != want {
		t.Errorf("Do(%v) at %s: %d, want %d", m, before, err, want)
	}
	if after := view(b); after != before {
		t.Fatalf("Do(%v), which has an error, leads from %s to %s", m, before, after)
	}
}

// refuseUndo takes back a move where there is none.
func refuseUndo(t *testing.T, b *board.Board) {
	t.Helper()
	before := view(b)
	if err := b.Undo(); err != api.ErrNone || view(b) != before {
		t.Errorf("Undo at %s: %d, want %d, and it leads to %s", before, err, api.ErrNone, view(b))
	}
}

// show writes moves with the letters of their types, and an @ for the hand.
func show(r api.Rules, l []api.Move) string {
	var words []string
	for _, m := range l {
		word := fmt.Sprintf("%d-%d%c", m.From, m.To, r.Pieces[m.Piece].Letter)
		words = append(words, strings.Replace(word, "-1-", "@", 1))
	}
	return strings.Join(words, " ")
}

// A step is a position of a game that is written out, and the move that led to it.
type step struct {
	m              api.Move
	position       string
	key            uint64
	legal          string
	result, player int
}

// hold holds a board against a step.
func (s step) hold(t *testing.T, r api.Rules, b *board.Board, n int) {
	t.Helper()
	text, _ := place.Text(r, b.Position())
	if text != s.position || b.Key() != s.key || show(r, b.Moves()) != s.legal || b.Result() != s.result || b.Turn() != s.player || b.Len() != n {
		t.Errorf("after %d moves: %q, %#x, %q, %d, %d, %d, want %+v", n, text, b.Key(), show(r, b.Moves()), b.Result(), b.Turn(), b.Len(), s)
	}
}

// try plays a game that is written out, takes it back, and plays it again.
func try(t *testing.T, r api.Rules, l []step) {
	t.Helper()
	b := open(t, r, read(t, r, l[0].position))
	for range 2 {
		l[0].hold(t, r, b, 0)
		for i, s := range l[1:] {
			do(t, b, s.m)
			s.hold(t, r, b, i+1)
		}
		for i := len(l) - 2; i >= 0; i-- {
			undo(t, b, 1)
			l[i].hold(t, r, b, i)
		}
		refuseUndo(t, b)
	}
}

func put(square int) api.Move {
	return api.Move{From: -1, To: square}
}

func TestP131Written(t *testing.T) {
	try(t, rulesOf(t, sampleRules), []step{
		{api.Move{}, "sgs/3/3/SGS S1 S1 1 0", 0x340BCB5BD1501819, "@3S @4S @5S @6S @7S @8S 0-3S 2-5S", 0, 0},
		{api.Move{From: 0, To: 3}, "sgs/3/S2/1GS S1 S1 2 1", 0x95F592080F5F997A, "@0S @4S @5S @6S @7S @8S 9-6S 11-8S", 0, 1},
		{api.Move{From: 11, To: 8}, "sg1/2s/S2/1GS S1 S1 1 2", 0xB7086009837D68A9, "@0S @4S @5S @6S @7S @11S 1-0G 2-5S 3-6S", 0, 0},
		{api.Move{From: 3, To: 6}, "sg1/S1s/3/1GS S1 S1 2 3", 0x309048EF27EB900D, "@0S @3S @4S @5S @7S @11S 8-5S 10-11G", 0, 1},
		{put(4), "sg1/S1s/1s1/1GS S1 - 1 0", 0x08474E48A0170D4C, "@0S @3S @5S @7S @11S 1-0G 2-4S 2-5S 6-10G", 0, 0},
		// A piece takes the last one of its kind, is kept, and the piece changes.
		{api.Move{From: 6, To: 10, Piece: 1}, "sG1/2s/1s1/1GS S1G1 - 2 0", 0x69F2024C0410BE75, "", 1, 1},
	})
}

func TestP132Written(t *testing.T) {
	r, _ := three()
	try(t, r, []step{
		{api.Move{}, "3/3/3 A5 A5 1 0", 0x473A7F70C61CD793, "@0A @1A @2A @3A @4A @5A @6A @7A @8A", 0, 0},
		{put(4), "3/1A1/3 A4 A5 2 0", 0x1D1C823397D78352, "@0A @1A @2A @3A @5A @6A @7A @8A", 0, 1},
		{put(1), "3/1A1/1a1 A4 A4 1 0", 0xE7031479F9EF5383, "@0A @2A @3A @5A @6A @7A @8A", 0, 0},
		{put(0), "3/1A1/Aa1 A3 A4 2 0", 0xE4F057282F1C73F3, "@2A @3A @5A @6A @7A @8A", 0, 1},
		{put(8), "2a/1A1/Aa1 A3 A3 1 0", 0xC95AD7D7BCFE0183, "@2A @3A @5A @6A @7A", 0, 0},
		{put(6), "A1a/1A1/Aa1 A2 A3 2 0", 0x475BA7CAB3B5A1C2, "@2A @3A @5A @7A", 0, 1},
		{put(2), "A1a/1A1/Aaa A2 A2 1 0", 0xAF2FC48FEBD9E986, "@3A @5A @7A", 0, 0},
		{put(3), "A1a/AA1/Aaa A1 A2 2 0", 0x6157BCC3CE9CF6DC, "", 1, 1},
	})
}

// TestP132Example has the example of P132.
func TestP132Example(t *testing.T) {
	r, p := sample()
	b := open(t, r, p)
	for _, m := range b.Moves() {
		do(t, b, m)
		undo(t, b, 1)
		if got := b.Position(); fmt.Sprint(got) != fmt.Sprint(p) {
			t.Errorf("after New, Do of %v and Undo: %+v, want %+v", m, got, p)
		}
	}
}

// refuseNew has rules and a position whose error is known.
func refuseNew(t *testing.T, r api.Rules, p api.Position, want api.Errno) {
	t.Helper()
	if b, err := board.New(r, p); b != nil || err != want {
		t.Errorf("New(%+v, %+v): %v, %d, want nil, %d", r, p, b, err, want)
	}
}

// TestP131NewWrong has wrong rules with positions that are right and wrong, and wrong positions of right rules.
func TestP131NewWrong(t *testing.T) {
	r, p := sample()
	for _, w := range testkit.Wrongs(r, p) {
		refuseNew(t, w.Rules, w.Position, w.Err)
	}
}

// TestP131NewNumbers has rules and positions in which one number, or each of them, is at or beyond its bounds.
func TestP131NewNumbers(t *testing.T) {
	seen := map[api.Errno]int{}
	r, p := sample()
	for r, p := range testkit.Changed(r, p, extremes) {
		err := place.Check(r, p)
		seen[err]++
		if err == api.OK {
			expect(t, open(t, r, p), r, p, 0)
		} else {
			refuseNew(t, r, p, err)
		}
	}
	for _, err := range []api.Errno{api.OK, api.ErrForm, api.ErrArg, api.ErrRange} {
		if seen[err] < 10 {
			t.Errorf("the error %d came up %d times only: %v", err, seen[err], seen)
		}
	}
}

// TestP131New has positions that no game from the beginning needs to have.
func TestP131New(t *testing.T) {
	for r, p := range games(500) {
		b := open(t, r, p)
		expect(t, b, r, p, 0)
		refuseUndo(t, b)
	}
}

// TestP131Undo has moves of all kinds with what would be lost by taking back what was moved alone: Quiet, a type, and a hand that is full.
func TestP131Undo(t *testing.T) {
	endless := rulesOf(t, sampleRules)
	endless.Ends, endless.Quiet = nil, 0
	falls := endless
	falls.Falls, falls.Keeps = true, false
	for _, c := range []struct {
		r        api.Rules
		position string
		m        api.Move
		after    string
	}{
		{endless, "3/3/3/3 S1 - 1 0", put(4), "3/3/1S1/3 - - 2 0"},
		{endless, "3/3/3/3 S1000 S7 1 77", put(11), "2S/3/3/3 S999 S7 2 0"},
		{endless, "3/3/3/3 S7 G1000 2 200", api.Move{From: -1, To: 0, Piece: 1}, "3/3/3/g2 S7 G999 1 0"},
		{endless, "3/3/1G1/3 - - 1 20", api.Move{From: 4, To: 3, Piece: 1}, "3/3/G2/3 - - 2 21"},
		{endless, "3/3/1G1/3 - - 1 199", api.Move{From: 4, To: 1, Piece: 1}, "3/3/3/1G1 - - 2 200"},
		{endless, "3/3/1G1/3 - - 1 200", api.Move{From: 4, To: 1, Piece: 1}, "3/3/3/1G1 - - 2 200"},
		{endless, "3/3/1g1/3 - - 2 200", api.Move{From: 4, To: 7, Piece: 1}, "3/1g1/3/3 - - 1 200"},
		// Pieces that are taken, and kept.
		{endless, "3/2s/1S1/3 - S3 1 5", api.Move{From: 4, To: 8}, "3/2S/3/3 S1 S3 2 0"},
		{endless, "3/2g/1S1/3 S3 G3 1 200", api.Move{From: 4, To: 8}, "3/2S/3/3 S3G1 G3 2 0"},
		{endless, "3/2g/1S1/3 G999 - 1 5", api.Move{From: 4, To: 8}, "3/2S/3/3 G1000 - 2 0"},
		{endless, "3/2g/1S1/3 G1000 - 1 5", api.Move{From: 4, To: 8}, "3/2S/3/3 G1000 - 2 0"},
		{endless, "3/G1g/3/3 - S1000 2 5", api.Move{From: 8, To: 6, Piece: 1}, "3/g2/3/3 - S1000G1 1 0"},
		{falls, "3/2s/1S1/3 - S3 1 5", api.Move{From: 4, To: 8}, "3/2S/3/3 - S3 2 0"},
		// Pieces that change.
		{endless, "3/1S1/3/3 - - 1 5", api.Move{From: 7, To: 10, Piece: 1}, "1G1/3/3/3 - - 2 6"},
		{endless, "3/3/1s1/3 - - 2 5", api.Move{From: 4, To: 1, Piece: 1}, "3/3/3/1g1 - - 1 6"},
		{endless, "s2/1S1/3/3 - - 1 5", api.Move{From: 7, To: 9, Piece: 1}, "G2/3/3/3 S1 - 2 0"},
		{endless, "3/3/1s1/G2 - - 2 5", api.Move{From: 4, To: 0, Piece: 1}, "3/3/3/g2 - G1 1 0"},
		// Pieces that fall on others.
		{falls, "3/3/1s1/SG1 S2 - 1 9", put(7), "3/1S1/1s1/SG1 S1 - 2 0"},
		{falls, "3/3/1s1/SG1 S2 - 1 9", put(2), "3/3/1s1/SGS S1 - 2 0"},
	} {
		p, after := read(t, c.r, c.position), read(t, c.r, c.after)
		b := open(t, c.r, p)
		for range 2 {
			expect(t, b, c.r, p, 0)
			do(t, b, c.m)
			expect(t, b, c.r, after, 1)
			undo(t, b, 1)
		}
		expect(t, b, c.r, p, 0)
		refuseUndo(t, b)
	}
}

// refuseAll has all moves with squares and types of the game, and others.
func refuseAll(t *testing.T, b *board.Board, r api.Rules, want api.Errno) {
	t.Helper()
	before := view(b)
	for _, m := range append(testkit.Candidates(r), testkit.MovesOf(extremes)...) {
		if err := b.Do(m); err != want {
			t.Fatalf("Do(%v) at %s: %d, want %d", m, before, err, want)
		}
	}
	if after := view(b); after != before {
		t.Errorf("moves that have errors lead from %s to %s", before, after)
	}
}

// TestP131Over has moves that end a game for each reason: none can be made after them, legal or not, but they can be taken back. Then it has boards that begin there.
func TestP131Over(t *testing.T) {
	row, _ := three()
	step, camp := testkit.Steps(), rulesOf(t, sampleRules)
	lost := func(r api.Rules) api.Rules {
		r.Ends = slices.Clone(r.Ends)
		r.Ends[0].Loses = true
		return r
	}
	blocked := func(how int) api.Rules {
		return api.Rules{Name: "FULL", Width: 1, Height: 2, Pieces: []api.RulePiece{{Letter: 'A', Hand: 1}}, Start: []int{0, 0}, Blocked: how}
	}
	for _, c := range []struct {
		r        api.Rules
		position string
		m        api.Move
		want     int
	}{
		{row, "3/aa1/AA1 A3 A3 1 0", put(2), api.WinsFirst},
		{row, "3/aa1/AA1 A3 A3 2 0", put(5), api.WinsSecond},
		{lost(row), "3/aa1/AA1 A3 A3 1 0", put(2), api.WinsSecond},
		{lost(row), "3/aa1/AA1 A3 A3 2 0", put(5), api.WinsFirst},
		{step, "1a/A1 - - 1 0", api.Move{From: 0, To: 2}, api.WinsFirst},
		{step, "1a/A1 - - 2 0", api.Move{From: 3, To: 1}, api.WinsSecond},
		{camp, samplePosition, api.Move{From: 6, To: 10, Piece: 1}, api.WinsFirst},
		{lost(camp), samplePosition, api.Move{From: 6, To: 10, Piece: 1}, api.WinsSecond},
		{camp, "3/g2/3/1GS S1 - 1 5", api.Move{From: 1, To: 0, Piece: 1}, api.Draw},
		{camp, "3/g2/3/1GS S1 S1 2 5", api.Move{From: 6, To: 8, Piece: 1}, api.Draw},
		{blocked(api.BlockedLoses), "1/A - A1 2 0", put(1), api.WinsSecond},
		{blocked(api.BlockedWins), "1/A - A1 2 0", put(1), api.WinsFirst},
		{blocked(api.BlockedDraws), "1/A - A1 2 0", put(1), api.Draw},
	} {
		p := read(t, c.r, c.position)
		after, _ := moves.After(c.r, p, c.m)
		b := open(t, c.r, p)
		for range 2 {
			do(t, b, c.m)
			if b.Result() != c.want || len(b.Moves()) != 0 {
				t.Errorf("after %v the result of %q is %d, and there are the moves %v, want %d", c.m, c.position, b.Result(), b.Moves(), c.want)
			}
			expect(t, b, c.r, after, 1)
			refuseAll(t, b, c.r, api.ErrOver)
			undo(t, b, 1)
			expect(t, b, c.r, p, 0)
		}
		b = open(t, c.r, after)
		expect(t, b, c.r, after, 0)
		refuseAll(t, b, c.r, api.ErrOver)
		refuseUndo(t, b)
	}
}

// TestP131NotLegal has all candidates, and moves with squares and types that the game does not have.
func TestP131NotLegal(t *testing.T) {
	seen := map[api.Errno]int{}
	test := func(r api.Rules, p api.Position, l []api.Move) {
		b := open(t, r, p)
		result, _ := ends.Of(r, p)
		legal, _ := moves.All(r, p)
		for _, m := range l {
			want := api.ErrMove
			if result != api.Open {
				want = api.ErrOver
			} else if slices.Contains(legal, m) {
				want = api.OK
			}
			seen[want]++
			if err := b.Do(m); err != want {
				t.Fatalf("Do(%v) on the board of %+v by %+v: %d, want %d", m, p, r, err, want)
			}
			if want == api.OK {
				undo(t, b, 1)
			}
		}
		expect(t, b, r, p, 0)
	}
	for r, p := range games(60) {
		test(r, p, testkit.Candidates(r))
	}
	r, p := sample()
	test(r, p, testkit.MovesOf(extremes))
	for _, err := range []api.Errno{api.OK, api.ErrMove, api.ErrOver} {
		if seen[err] < 100 {
			t.Errorf("the error %d came up %d times only: %v", err, seen[err], seen)
		}
	}
}

// walked returns a board by the rules of testkit.Steps with so many moves, and the views of it before each of them.
func walked(t *testing.T, n int) (*board.Board, []string) {
	t.Helper()
	r := testkit.Steps()
	p, _ := place.Begin(r)
	b := open(t, r, p)
	var views []string
	for i := range n {
		views = append(views, view(b))
		do(t, b, testkit.ToAndFro(i))
	}
	return b, views
}

// TestP131Full has a game of 400 moves. It is not over, so that it still has legal moves, of which none can be made.
func TestP131Full(t *testing.T) {
	b, views := walked(t, 400)
	r := testkit.Steps()
	expect(t, b, r, read(t, r, "a1/A1 - - 1 200"), 400)
	if got := show(r, b.Moves()); got != "0-1A" || b.Result() != api.Open || b.Len() != 400 {
		t.Errorf("after 400 moves: %q, %d, %d", got, b.Result(), b.Len())
	}
	for _, m := range append(testkit.Candidates(r), testkit.MovesOf(extremes)...) {
		want := api.ErrMove
		if m == testkit.ToAndFro(0) {
			want = api.ErrFull
		}
		if err := b.Do(m); err != want {
			t.Fatalf("Do(%v) after 400 moves: %d, want %d", m, err, want)
		}
	}
	// There is room for one move again, and for no more.
	undo(t, b, 1)
	do(t, b, testkit.ToAndFro(399))
	refuse(t, b, testkit.ToAndFro(0), api.ErrFull)
	for i := len(views) - 1; i >= 0; i-- {
		undo(t, b, 1)
		if got := view(b); got != views[i] {
			t.Fatalf("taken back to %d moves: %s, want %s", i, got, views[i])
		}
	}
	refuseUndo(t, b)
}

// TestP131FullAndOver has a game that ends with its 400th move.
func TestP131FullAndOver(t *testing.T) {
	b, _ := walked(t, 399)
	do(t, b, api.Move{From: 3, To: 1})
	if b.Result() != api.WinsSecond || b.Len() != 400 {
		t.Errorf("after 400 moves: %d, %d", b.Result(), b.Len())
	}
	refuseAll(t, b, testkit.Steps(), api.ErrOver)
	undo(t, b, 1)
	refuse(t, b, api.Move{From: 0, To: 3}, api.ErrMove)
	do(t, b, testkit.ToAndFro(399))
	refuse(t, b, testkit.ToAndFro(0), api.ErrFull)
}

// TestP131TakenBackMovesDoNotCount makes more than 400 moves, but takes most of them back.
func TestP131TakenBackMovesDoNotCount(t *testing.T) {
	b, _ := walked(t, 3)
	for range 500 {
		do(t, b, testkit.ToAndFro(3))
		undo(t, b, 1)
	}
	for i := 3; i < 400; i++ {
		do(t, b, testkit.ToAndFro(i))
		if b.Len() != i+1 {
			t.Errorf("after %d moves Len has %d", i+1, b.Len())
		}
	}
	refuse(t, b, testkit.ToAndFro(0), api.ErrFull)
}

// TestP132RepeatDoesNotMatter has the beginning of a game a hundred times, where the rules permit two.
func TestP132RepeatDoesNotMatter(t *testing.T) {
	b, _ := walked(t, 396)
	r := testkit.Steps()
	p, _ := place.Begin(r)
	if !place.Same(b.Position(), p) || b.Result() != api.Open || len(b.Moves()) != 1 {
		t.Errorf("the beginning again: %s", view(b))
	}
}

// TestP132MovesIfOver has positions that are over although there are legal moves.
func TestP132MovesIfOver(t *testing.T) {
	seen := 0
	for r, p := range games(500) {
		legal, _ := moves.All(r, p)
		b := open(t, r, p)
		if b.Result() == api.Open {
			if got := b.Moves(); !slices.Equal(got, legal) {
				t.Errorf("Moves of %+v by %+v: %v, want %v", p, r, got, legal)
			}
			continue
		}
		if got := b.Moves(); len(got) != 0 {
			t.Errorf("Moves of %+v by %+v, which is over: %v", p, r, got)
		}
		if len(legal) > 0 {
			seen++
		}
	}
	if seen < 100 {
		t.Errorf("only %d positions are over and have legal moves", seen)
	}
}

// A slowBoard is the position at first, and the moves that have been made. It plays all of them again for each question.
type slowBoard struct {
	r api.Rules
	p api.Position
	l []api.Move
}

func (s *slowBoard) position() api.Position {
	p := s.p
	for _, m := range s.l {
		p, _ = moves.After(s.r, p, m)
	}
	return p
}

func (s *slowBoard) do(m api.Move) api.Errno {
	p := s.position()
	if result, _ := ends.Of(s.r, p); result != api.Open {
		return api.ErrOver
	}
	if is, _ := moves.Legal(s.r, p, m); !is {
		return api.ErrMove
	}
	if len(s.l) == 400 {
		return api.ErrFull
	}
	s.l = append(s.l, m)
	return api.OK
}

func (s *slowBoard) undo() api.Errno {
	if len(s.l) == 0 {
		return api.ErrNone
	}
	s.l = s.l[:len(s.l)-1]
	return api.OK
}

// anyMove returns a legal move, if there is one and choose does not want any other.
func anyMove(r api.Rules, p api.Position, choose func(n int) int) api.Move {
	l, _ := moves.All(r, p)
	if len(l) == 0 || choose(6) == 0 {
		l = testkit.Candidates(r)
	}
	return l[choose(len(l))]
}

// TestSlow makes moves and takes them back without a pattern.
func TestSlow(t *testing.T) {
	random := rand.New(rand.NewPCG(9, 132))
	seen := map[string]int{}
	for r, p := range games(400) {
		b, s := open(t, r, p), &slowBoard{r: r, p: p}
		for range 50 {
			what, got, want := "undo", api.OK, api.OK
			if random.IntN(4) > 0 {
				m := anyMove(r, s.position(), random.IntN)
				what, got, want = "do", b.Do(m), s.do(m)
			} else {
				got, want = b.Undo(), s.undo()
			}
			if got != want {
				t.Fatalf("%s at %s: %d, want %d", what, view(b), got, want)
			}
			expect(t, b, r, s.position(), len(s.l))
			seen[fmt.Sprint(what, want)]++
			seen[fmt.Sprint("result", b.Result(), b.Turn())]++
		}
	}
	for _, what := range []string{"do0", "do13", "do14", "undo0", "undo8", "result0 0", "result0 1", "result1 0", "result1 1", "result2 0", "result2 1", "result3 0", "result3 1"} {
		if seen[what] < 50 {
			t.Errorf("%s came up %d times only: %v", what, seen[what], seen)
		}
	}
}

// TestThreeInARow plays all games of three in a row on one board, and counts how they end.
func TestThreeInARow(t *testing.T) {
	r, p := three()
	b := open(t, r, p)
	var count [4]int
	var play func()
	play = func() {
		count[b.Result()]++
		for _, m := range b.Moves() {
			b.Do(m)
			play()
			b.Undo()
		}
	}
	play()
	// The known numbers of games; and of all beginnings of games that are not over.
	if want := [4]int{549946 - 255168, 131184, 77904, 46080}; count != want {
		t.Errorf("the games end %v, want %v", count, want)
	}
	expect(t, b, r, p, 0)
}

// withoutQuiet returns the text of the position but Quiet.
func withoutQuiet(r api.Rules, b *board.Board) string {
	text, _ := place.Text(r, b.Position())
	return text[:strings.LastIndexByte(text, ' ')]
}

// TestP505 goes all ways of up to so many moves: each position has one key on all of them, also when a move is taken back, and no other position has it.
func TestP505(t *testing.T) {
	row, empty := three()
	camp := rulesOf(t, sampleRules)
	begin, _ := place.Begin(camp)
	for _, c := range []struct {
		r     api.Rules
		p     api.Position
		depth int
	}{{row, empty, 5}, {camp, begin, 4}, {camp, read(t, camp, "1g1/3/3/1G1 - - 1 0"), 6}} {
		keys, owners := map[string]uint64{}, map[uint64]string{}
		ways := 0
		b := open(t, c.r, c.p)
		hold := func() {
			text, key := withoutQuiet(c.r, b), b.Key()
			known, is := keys[text]
			owner, has := owners[key]
			if is && known != key || has && owner != text {
				t.Fatalf("%q has the keys %#x and %#x, which is that of %q", text, known, key, owner)
			}
			keys[text], owners[key] = key, text
		}
		var walk func(depth int)
		walk = func(depth int) {
			ways++
			hold()
			if depth == 0 {
				return
			}
			for _, m := range b.Moves() {
				do(t, b, m)
				walk(depth - 1)
				undo(t, b, 1)
				hold()
			}
		}
		walk(c.depth)
		if ways < 3*len(keys)/2 {
			t.Errorf("there are only %d ways to %d positions", ways, len(keys))
		}
	}
}

// TestP506 plays games, takes them back to any point, goes another way and back, and plays on as before.
func TestP506(t *testing.T) {
	random := rand.New(rand.NewPCG(9, 506))
	again := 0
	for r, p := range games(200) {
		b := open(t, r, p)
		var l []api.Move
		views := []string{view(b)}
		for legal := b.Moves(); len(legal) > 0 && len(l) < 40; legal = b.Moves() {
			m := legal[random.IntN(len(legal))]
			do(t, b, m)
			l, views = append(l, m), append(views, view(b))
		}
		for range 5 {
			point := random.IntN(len(l) + 1)
			undo(t, b, b.Len()-point)
			other := 0
			for legal := b.Moves(); len(legal) > 0 && other < 5; legal = b.Moves() {
				do(t, b, legal[random.IntN(len(legal))])
				other++
			}
			undo(t, b, other)
			for i := point; i < len(l); i++ {
				if got := view(b); got != views[i] {
					t.Fatalf("again after %d moves: %s, want %s", i, got, views[i])
				}
				do(t, b, l[i])
				again++
			}
			if got := view(b); got != views[len(l)] {
				t.Fatalf("again at the end: %s, want %s", got, views[len(l)])
			}
		}
	}
	if again < 2000 {
		t.Errorf("only %d moves were played again", again)
	}
}
