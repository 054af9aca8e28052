package plain_test

import (
	"fmt"
	"iter"
	"math"
	"math/rand/v2"
	"slices"
	"strings"
	"testing"

	"gamehall/api"
	"gamehall/ends"
	"gamehall/moves"
	"gamehall/place"
	"gamehall/plain"
	"gamehall/rules"
	"gamehall/ruletext"
	"gamehall/testkit"
)

// The tests hold package plain against games that are written out, against the known numbers of games of three in a row, and against a slow game that plays all its moves again for each question and compares positions as texts.

// extremes are ints at and beyond all the bounds that occur in the chapter.
var extremes = []int{math.MinInt, math.MinInt + 1, -1000, -64, -8, -2, -1, 0, 1, 2, 3, 4, 5, 6, 7, 8, 63, 64, 65, 199, 200, 201, 399, 400, 401, 999, 1000, 1001, 1 << 32, math.MaxInt - 1, math.MaxInt}

// sampleRules has pieces that are put, move, take, change, and are kept, and positions that occur again.
const sampleRules = `game YARD 3 3
piece K 0 -
way 1 0 1 may
way -1 0 1 may
way 0 1 1 may
way 0 -1 1 may
piece P 2 K
way 0 1 1 never
row .k.
row ...
row .K.
keeps
end take K 1 wins
blocked draws
quiet 0
repeat 3
`

func rulesOf(t *testing.T, text string) api.Rules {
	t.Helper()
	r, err := ruletext.Parse(text)
	if err != api.OK {
		t.Fatalf("the text %q of the test has no rules: %d", text, err)
	}
	return r
}

func sample() api.Rules {
	r, _ := ruletext.Parse(sampleRules)
	return r
}

// games returns an iterator over the rules of the sample and so many others, the same for each call. Half of them have small boards.
func games(n int) iter.Seq[api.Rules] {
	return func(yield func(api.Rules) bool) {
		random := rand.New(rand.NewPCG(10, 133))
		for goOn, left := yield(sample()), n; goOn && left > 0; left-- {
			if left%2 == 0 {
				goOn = yield(testkit.SmallRules(random.IntN))
			} else {
				r, _ := testkit.AnyGame(random.IntN)
				goOn = yield(r)
			}
		}
	}
}

// begin returns a game by rules that are right.
func begin(t *testing.T, r api.Rules) *plain.Game {
	t.Helper()
	g, err := plain.New(r)
	if g == nil || err != api.OK {
		t.Fatalf("New(%+v): %v, %d", r, g, err)
	}
	return g
}

// view tells all that the methods of a game return.
func view(g *plain.Game) string {
	return fmt.Sprint(g.Position(), g.Moves(), g.Count(), g.Result())
}

// play makes moves that have no error.
func play(t *testing.T, g *plain.Game, l ...api.Move) {
	t.Helper()
	for _, m := range l {
		if err := g.Play(m); err != api.OK {
			t.Fatalf("Play(%v) at %s: %d", m, view(g), err)
		}
	}
}

// back takes back so many moves.
func back(t *testing.T, g *plain.Game, n int) {
	t.Helper()
	for range n {
		if err := g.Back(); err != api.OK {
			t.Fatalf("Back at %s: %d", view(g), err)
		}
	}
}

// refuse has moves with an error, and looks whether one of them has an effect.
func refuse(t *testing.T, g *plain.Game, want api.Errno, l ...api.Move) {
	t.Helper()
	before := view(g)
	for _, m := range l {
		if err := g.Play(m); err != want {
			t.Fatalf("Play(%v) at %s: %d, want %d", m, before, err, want)
		}
	}
	if after := view(g); after != before {
		t.Fatalf("moves that have errors lead from %s to %s", before, after)
	}
}

// refuseBack takes back a move where there is none.
func refuseBack(t *testing.T, g *plain.Game) {
	t.Helper()
	before := view(g)
	if err := g.Back(); err != api.ErrNone || view(g) != before {
		t.Errorf("Back at %s: %d, want %d, and it leads to %s", before, err, api.ErrNone, view(g))
	}
}

// legalOf returns the legal moves of a game, whether it is over or not.
func legalOf(r api.Rules, g *plain.Game) []api.Move {
	l, _ := moves.All(r, g.Position())
	return l
}

// allMoves returns all moves with squares and types of a game, and others.
func allMoves(r api.Rules) []api.Move {
	return append(testkit.Candidates(r), testkit.MovesOf(extremes)...)
}

// A slowGame is the moves that have been played. It plays all of them again for each question.
type slowGame struct {
	r api.Rules
	l []api.Move
}

// positions returns all positions of the game, the beginning and the present one included.
func (s *slowGame) positions() []api.Position {
	p, _ := place.Begin(s.r)
	all := []api.Position{p}
	for _, m := range s.l {
		p, _ = moves.After(s.r, p, m)
		all = append(all, p)
	}
	return all
}

func (s *slowGame) position() api.Position {
	all := s.positions()
	return all[len(all)-1]
}

func (s *slowGame) count() int {
	occurs := map[string]int{}
	last := ""
	for _, p := range s.positions() {
		text, _ := place.Text(s.r, p)
		last = text[:strings.LastIndexByte(text, ' ')] // all but Quiet
		occurs[last]++
	}
	return occurs[last]
}

func (s *slowGame) result() int {
	result, _ := ends.Of(s.r, s.position())
	if drawn := s.r.Repeat > 0 && s.count() >= s.r.Repeat; drawn && result == api.Open {
		return api.Draw
	}
	return result
}

func (s *slowGame) play(m api.Move) api.Errno {
	legal, _ := moves.All(s.r, s.position())
	switch {
	case s.result() != api.Open:
		return api.ErrOver
	case !slices.Contains(legal, m):
		return api.ErrMove
	case len(s.l) == 400:
		return api.ErrFull
	}
	s.l = append(s.l, m)
	return api.OK
}

func (s *slowGame) back() api.Errno {
	if len(s.l) == 0 {
		return api.ErrNone
	}
	s.l = s.l[:len(s.l)-1]
	return api.OK
}

// expect holds all methods of a game against a slow one.
func expect(t *testing.T, g *plain.Game, s *slowGame) {
	t.Helper()
	if got, want := view(g), fmt.Sprint(s.position(), s.l, s.count(), s.result()); got != want {
		t.Fatalf("a game by %+v has %s, want %s", s.r, got, want)
	}
}

// A step is a position of a game that is written out, the move that led to it, how many times it has occurred, and the result.
type step struct {
	m             api.Move
	position      string
	count, result int
}

// hold holds a game, and Run, against the last one of the steps.
func hold(t *testing.T, r api.Rules, g *plain.Game, l []step) {
	t.Helper()
	var played []api.Move
	for _, s := range l[1:] {
		played = append(played, s.m)
	}
	want := l[len(l)-1]
	text, _ := place.Text(r, g.Position())
	if text != want.position || !slices.Equal(g.Moves(), played) || g.Count() != want.count || g.Result() != want.result {
		t.Errorf("%s: after %v: %q, %v, %d, %d, want %+v", r.Name, played, text, g.Moves(), g.Count(), g.Result(), want)
	}
	p, result, err := plain.Run(r, played)
	if text, _ := place.Text(r, p); text != want.position || result != want.result || err != api.OK {
		t.Errorf("%s: Run(%v): %q, %d, %d, want %+v", r.Name, played, text, result, err, want)
	}
}

// try plays a game that is written out, takes it back, and plays it again.
func try(t *testing.T, r api.Rules, l []step) {
	t.Helper()
	g := begin(t, r)
	for range 2 {
		hold(t, r, g, l[:1])
		for i, s := range l[1:] {
			play(t, g, s.m)
			hold(t, r, g, l[:i+2])
		}
		for i := len(l) - 1; i > 0; i-- {
			back(t, g, 1)
			hold(t, r, g, l[:i])
		}
		refuseBack(t, g)
	}
}

func put(square int) api.Move {
	return api.Move{From: -1, To: square}
}

func move(from, to int) api.Move {
	return api.Move{From: from, To: to}
}

// TestP133Written has a game that ends because a piece is taken.
func TestP133Written(t *testing.T) {
	try(t, rulesOf(t, sampleRules), []step{
		{api.Move{}, "1k1/3/1K1 P2 P2 1 0", 1, 0},
		{api.Move{From: -1, To: 3, Piece: 1}, "1k1/P2/1K1 P1 P2 2 0", 1, 0},
		{api.Move{From: -1, To: 5, Piece: 1}, "1k1/P1p/1K1 P1 P1 1 0", 1, 0},
		{move(3, 6), "Kk1/2p/1K1 P1 P1 2 1", 1, 0},
		{move(7, 6), "k2/2p/1K1 P1 K1P1 1 0", 1, 0},
		{move(1, 2), "k2/2p/2K P1 K1P1 2 1", 1, 0},
		{put(7), "kk1/2p/2K P1 P1 1 0", 1, 0},
		{move(2, 5), "kk1/2K/3 P2 P1 2 0", 1, 0},
		{move(7, 8), "k1k/2K/3 P2 P1 1 1", 1, 0},
		{move(5, 8), "k1K/3/3 K1P2 P1 2 0", 1, 0},
		{move(6, 7), "1kK/3/3 K1P2 P1 1 1", 1, 0},
		{move(8, 7), "1K1/3/3 K2P2 P1 2 0", 1, 1},
	})
}

// TestP134Written has a game that ends because a position occurs again.
func TestP134Written(t *testing.T) {
	try(t, rulesOf(t, sampleRules), []step{
		{api.Move{}, "1k1/3/1K1 P2 P2 1 0", 1, 0},
		{move(1, 0), "1k1/3/K2 P2 P2 2 1", 1, 0},
		{move(7, 6), "k2/3/K2 P2 P2 1 2", 1, 0},
		{move(0, 1), "k2/3/1K1 P2 P2 2 3", 1, 0},
		{move(6, 7), "1k1/3/1K1 P2 P2 1 4", 2, 0},
		{move(1, 0), "1k1/3/K2 P2 P2 2 5", 2, 0},
		{move(7, 8), "2k/3/K2 P2 P2 1 6", 1, 0},
		{move(0, 1), "2k/3/1K1 P2 P2 2 7", 1, 0},
		{move(8, 7), "1k1/3/1K1 P2 P2 1 8", 3, 3},
	})
}

// TestP134Later has a position again that is not the beginning.
func TestP134Later(t *testing.T) {
	r := sample()
	r.Repeat = 2
	try(t, r, []step{
		{api.Move{}, "1k1/3/1K1 P2 P2 1 0", 1, 0},
		{move(1, 0), "1k1/3/K2 P2 P2 2 1", 1, 0},
		{api.Move{From: -1, To: 4, Piece: 1}, "1k1/1p1/K2 P2 P1 1 0", 1, 0},
		{move(0, 1), "1k1/1p1/1K1 P2 P1 2 1", 1, 0},
		{move(7, 8), "2k/1p1/1K1 P2 P1 1 2", 1, 0},
		{move(1, 2), "2k/1p1/2K P2 P1 2 3", 1, 0},
		{move(8, 7), "1k1/1p1/2K P2 P1 1 4", 1, 0},
		{move(2, 1), "1k1/1p1/1K1 P2 P1 2 5", 2, 3},
	})
}

// TestP134Turn has the cells and hands of the beginning with the turn of Second, since one piece goes round in three moves and the other one in two.
func TestP134Turn(t *testing.T) {
	r := rulesOf(t, `game ROUND 4 2
piece A 0 -
way 1 0 1 never
way -1 1 1 never
way 0 1 1 never
way 0 -1 1 never
row ...a
row A...
blocked loses
quiet 0
repeat 2
`)
	try(t, r, []step{
		{api.Move{}, "3a/A3 - - 1 0", 1, 0},
		{move(0, 1), "3a/1A2 - - 2 1", 1, 0},
		{move(7, 3), "4/1A1a - - 1 2", 1, 0},
		{move(1, 4), "A3/3a - - 2 3", 1, 0},
		{move(3, 7), "A2a/4 - - 1 4", 1, 0},
		{move(4, 0), "3a/A3 - - 2 5", 1, 0},
		{move(7, 3), "4/A2a - - 1 6", 1, 0},
		{move(0, 1), "4/1A1a - - 2 7", 1, 0},
		{move(3, 7), "3a/1A2 - - 1 8", 1, 0},
		{move(1, 4), "A2a/4 - - 2 9", 1, 0},
		{move(7, 3), "A3/3a - - 1 10", 1, 0},
		{move(4, 0), "4/A2a - - 2 11", 1, 0},
		{move(3, 7), "3a/A3 - - 1 12", 2, 3},
	})
}

// takersRules has pieces P that are put, and K that take them.
const takersRules = `game TAKERS 3 1
piece P 3 -
piece K 0 -
way 1 0 1 may
way -1 0 1 may
row %s
blocked loses
quiet 0
repeat 2
`

// TestP134FirstHand has the same cells and turn, but fewer pieces in the hand of First.
func TestP134FirstHand(t *testing.T) {
	try(t, rulesOf(t, fmt.Sprintf(takersRules, "k..")), []step{
		{api.Move{}, "k2 P3 P3 1 0", 1, 0},
		{put(1), "kP1 P2 P3 2 0", 1, 0},
		{api.Move{From: 0, To: 1, Piece: 1}, "1k1 P2 P3 1 0", 1, 0},
		{put(0), "Pk1 P1 P3 2 0", 1, 0},
		{api.Move{From: 1, To: 0, Piece: 1}, "k2 P1 P3 1 0", 1, 0},
		{put(1), "kP1 - P3 2 0", 1, 0},
		{api.Move{From: 0, To: 1, Piece: 1}, "1k1 - P3 1 0", 1, 2},
	})
}

// TestP134SecondHand has the same cells and turn, but fewer pieces in the hand of Second.
func TestP134SecondHand(t *testing.T) {
	try(t, rulesOf(t, fmt.Sprintf(takersRules, "K..")), []step{
		{api.Move{}, "K2 P3 P3 1 0", 1, 0},
		{api.Move{From: 0, To: 1, Piece: 1}, "1K1 P3 P3 2 1", 1, 0},
		{put(0), "pK1 P3 P2 1 0", 1, 0},
		{api.Move{From: 1, To: 0, Piece: 1}, "K2 P3 P2 2 0", 1, 0},
		{put(1), "Kp1 P3 P1 1 0", 1, 0},
		{api.Move{From: 0, To: 1, Piece: 1}, "1K1 P3 P1 2 0", 1, 0},
	})
}

// TestP134Put has a position again after pieces were taken and put: no move between is quiet.
func TestP134Put(t *testing.T) {
	r := rulesOf(t, `game CROSS 4 1
piece P 0 -
way 1 0 1 may
way -1 0 1 may
row Ppp.
keeps
blocked loses
quiet 0
repeat 3
`)
	l := []step{{api.Move{}, "Ppp1 - - 1 0", 1, 0}}
	for count := 1; count <= 2; count++ {
		l = append(l,
			step{move(0, 1), "1Pp1 P1 - 2 0", count, 0},
			step{move(2, 1), "1p2 P1 P1 1 0", count, 0},
			step{put(0), "Pp2 - P1 2 0", count, 0},
			step{put(2), "Ppp1 - - 1 0", count + 1, []int{0, 0, 3}[count]})
	}
	try(t, r, l)
}

// TestP133NewWrong has wrong rules, which Run refuses, too.
func TestP133NewWrong(t *testing.T) {
	r := sample()
	p, _ := place.Begin(r)
	for _, w := range testkit.Wrongs(r, p) {
		if want := rules.Check(w.Rules); want != api.OK {
			refuseNew(t, w.Rules, want)
		}
	}
}

// refuseNew has rules whose error is known, with moves that are legal in the sample, and not.
func refuseNew(t *testing.T, r api.Rules, want api.Errno) {
	t.Helper()
	if g, err := plain.New(r); g != nil || err != want {
		t.Errorf("New(%+v): %v, %d, want nil, %d", r, g, err, want)
	}
	for _, l := range [][]api.Move{nil, {move(1, 0)}, {move(1, 8)}} {
		refuseRun(t, r, l, want)
	}
}

// refuseRun has moves, or rules, whose error is known.
func refuseRun(t *testing.T, r api.Rules, l []api.Move, want api.Errno) {
	t.Helper()
	p, result, err := plain.Run(r, l)
	if fmt.Sprint(p) != fmt.Sprint(api.Position{}) || result != 0 || err != want {
		t.Errorf("Run(%+v, %v): %+v, %d, %d, want %d", r, l, p, result, err, want)
	}
}

// TestP133NewNumbers has rules in which one number, or each of them, is at or beyond its bounds.
func TestP133NewNumbers(t *testing.T) {
	seen := map[api.Errno]int{}
	r := sample()
	p, _ := place.Begin(r)
	for r := range testkit.Changed(r, p, extremes) {
		err := rules.Check(r)
		seen[err]++
		if err == api.OK {
			expect(t, begin(t, r), &slowGame{r: r})
		} else {
			refuseNew(t, r, err)
		}
	}
	for _, err := range []api.Errno{api.OK, api.ErrForm, api.ErrArg, api.ErrRange} {
		if seen[err] < 10 {
			t.Errorf("the error %d came up %d times only: %v", err, seen[err], seen)
		}
	}
}

// TestP133New has beginnings of all kinds, some of which are over.
func TestP133New(t *testing.T) {
	over := 0
	for r := range games(500) {
		g := begin(t, r)
		expect(t, g, &slowGame{r: r})
		refuseBack(t, g)
		if p, _ := place.Begin(r); fmt.Sprint(g.Position()) != fmt.Sprint(p) || len(g.Moves()) != 0 || g.Count() != 1 {
			t.Errorf("the beginning of %+v: %s", r, view(g))
		}
		if g.Result() != api.Open {
			refuse(t, g, api.ErrOver, append(legalOf(r, g), move(0, 0), put(0))...)
			over++
		}
	}
	if over < 50 {
		t.Errorf("only %d beginnings are over", over)
	}
}

// TestP133Over has moves that end a game for each reason: none can be played after them, legal or not, but they can be taken back.
func TestP133Over(t *testing.T) {
	three := func(loses bool) api.Rules {
		r := testkit.Three()
		r.Ends[0].Loses = loses
		return r
	}
	steps := func(quiet, repeat int) api.Rules {
		r := testkit.Steps()
		r.Quiet, r.Repeat = quiet, repeat
		return r
	}
	blocked := func(how int) api.Rules {
		return api.Rules{Name: "FULL", Width: 1, Height: 2, Pieces: []api.RulePiece{{Letter: 'A', Hand: 1}}, Start: []int{0, 0}, Blocked: how}
	}
	first := []api.Move{put(0), put(3), put(1), put(4), put(2)}
	second := []api.Move{put(0), put(3), put(1), put(4), put(8), put(5)}
	var circle []api.Move
	for n := range 9 {
		circle = append(circle, testkit.ToAndFro(n))
	}
	for _, c := range []struct {
		r    api.Rules
		l    []api.Move
		want int
	}{
		{three(false), first, api.WinsFirst},
		{three(false), second, api.WinsSecond},
		{three(true), first, api.WinsSecond},
		{three(true), second, api.WinsFirst},
		{steps(0, 0), []api.Move{move(0, 1), move(2, 0)}, api.WinsSecond},
		{steps(3, 0), circle[:3], api.Draw},
		{steps(4, 2), circle[:4], api.Draw},
		{steps(0, 2), circle[:4], api.Draw},
		{steps(5, 2), circle[:4], api.Draw},
		{steps(0, 3), circle[:8], api.Draw},
		{steps(8, 4), circle[:8], api.Draw},
		{blocked(api.BlockedLoses), []api.Move{put(0), put(1)}, api.WinsSecond},
		{blocked(api.BlockedWins), []api.Move{put(0), put(1)}, api.WinsFirst},
		{blocked(api.BlockedDraws), []api.Move{put(0), put(1)}, api.Draw},
	} {
		last := len(c.l) - 1
		g := begin(t, c.r)
		play(t, g, c.l[:last]...)
		for range 2 {
			before := view(g)
			if g.Result() != api.Open {
				t.Errorf("%s: before the last move of %v the result is %d", c.r.Name, c.l, g.Result())
			}
			play(t, g, c.l[last])
			if g.Result() != c.want {
				t.Errorf("%s: after %v the result is %d, want %d", c.r.Name, c.l, g.Result(), c.want)
			}
			refuse(t, g, api.ErrOver, allMoves(c.r)...)
			for _, m := range append(legalOf(c.r, g), move(0, 0)) {
				refuseRun(t, c.r, append(slices.Clone(c.l), m), api.ErrOver)
			}
			back(t, g, 1)
			if after := view(g); after != before {
				t.Errorf("%s: taken back to %s, want %s", c.r.Name, after, before)
			}
		}
	}
}

// TestP133NotLegal has all candidates, and moves with squares and types that the game does not have.
func TestP133NotLegal(t *testing.T) {
	seen := map[api.Errno]int{}
	test := func(r api.Rules, l []api.Move) {
		g := begin(t, r)
		legal := legalOf(r, g)
		before := view(g)
		for _, m := range l {
			want := api.ErrMove
			if g.Result() != api.Open {
				want = api.ErrOver
			} else if slices.Contains(legal, m) {
				want = api.OK
			}
			seen[want]++
			if err := g.Play(m); err != want {
				t.Fatalf("Play(%v) at the beginning of %+v: %d, want %d", m, r, err, want)
			}
			if want == api.OK {
				back(t, g, 1)
			}
		}
		if after := view(g); after != before {
			t.Errorf("after moves that were not legal, or taken back: %s, want %s", after, before)
		}
	}
	for r := range games(60) {
		test(r, testkit.Candidates(r))
	}
	test(sample(), testkit.MovesOf(extremes))
	for _, err := range []api.Errno{api.OK, api.ErrMove, api.ErrOver} {
		if seen[err] < 100 {
			t.Errorf("the error %d came up %d times only: %v", err, seen[err], seen)
		}
	}
}

// rings returns rules with two pieces that go round, one on 8 squares and one on 25, so that no position occurs again within 400 moves, and the beginning does after them.
func rings(repeat int) api.Rules {
	way := func(dx, dy int) api.RuleWay { return api.RuleWay{DX: dx, DY: dy, Most: 1} }
	r := api.Rules{Name: "RINGS", Width: 8, Height: 8, Start: make([]int, 64), Repeat: repeat}
	r.Pieces = []api.RulePiece{{Letter: 'A', Ways: []api.RuleWay{way(1, 0), way(-3, 1), way(-3, -1)}}, {Letter: 'B', Ways: []api.RuleWay{way(1, 0), way(-4, -1), way(-4, 4)}}}
	r.Start[ringMove(0).From], r.Start[ringMove(1).From] = 1, 4
	return r
}

// ringMove returns the move of rings after n moves, from 0.
func ringMove(n int) api.Move {
	if n%2 == 0 {
		square := func(i int) int { return i%8/4*8 + i%4 }
		return move(square(n/2), square(n/2+1))
	}
	square := func(i int) int { return (3+i%25/5)*8 + i%25%5 }
	return api.Move{From: square(n / 2), To: square(n/2 + 1), Piece: 1}
}

// ringMoves returns so many moves of rings.
func ringMoves(n int) []api.Move {
	var l []api.Move
	for i := range n {
		l = append(l, ringMove(i))
	}
	return l
}

// TestP133Full has games of 400 moves. If they are not over, there are still legal moves, of which none can be played.
func TestP133Full(t *testing.T) {
	for _, c := range []struct {
		repeat, result int
		err            api.Errno
	}{{0, api.Open, api.ErrFull}, {2, api.Draw, api.ErrOver}, {3, api.Open, api.ErrFull}, {5, api.Open, api.ErrFull}} {
		r := rings(c.repeat)
		g := begin(t, r)
		for n := range 400 {
			if g.Count() != 1 || g.Result() != api.Open || len(g.Moves()) != n {
				t.Fatalf("after %d moves: %s", n, view(g))
			}
			play(t, g, ringMove(n))
		}
		for range 2 {
			if g.Count() != 2 || g.Result() != c.result || len(g.Moves()) != 400 {
				t.Errorf("with Repeat %d after 400 moves: %s", c.repeat, view(g))
			}
			refuse(t, g, c.err, legalOf(r, g)...)
			refuseRun(t, r, ringMoves(401), c.err)
			illegal := api.ErrMove
			if c.result != api.Open {
				illegal = api.ErrOver
			}
			refuse(t, g, illegal, move(0, 0), ringMove(1), put(10))
			refuseRun(t, r, append(ringMoves(400), move(0, 0)), illegal)
			refuseRun(t, r, append(ringMoves(400), move(0, 0), ringMove(0)), illegal)
			// There is room for one move again, and for no more.
			back(t, g, 1)
			play(t, g, ringMove(399))
		}
		back(t, g, 400)
		expect(t, g, &slowGame{r: r})
		refuseBack(t, g)
	}
}

// TestP133TakenBackMovesDoNotCount plays more than 400 moves, but takes most of them back.
func TestP133TakenBackMovesDoNotCount(t *testing.T) {
	r := rings(0)
	g := begin(t, r)
	play(t, g, ringMoves(3)...)
	for range 500 {
		play(t, g, ringMove(3))
		back(t, g, 1)
	}
	for n := 3; n < 400; n++ {
		play(t, g, ringMove(n))
	}
	refuse(t, g, api.ErrFull, ringMove(400))
}

// TestP134CountGoesOn steps to and fro where Repeat is 0, so that Count has no bound but the length of a game, and Quiet no effect.
func TestP134CountGoesOn(t *testing.T) {
	r := testkit.Steps()
	r.Repeat = 0
	g := begin(t, r)
	for n := range 400 {
		if p := g.Position(); g.Count() != n/4+1 || g.Result() != api.Open || p.Quiet != min(n, 200) || p.Turn != n%2 {
			t.Fatalf("after %d moves: %s", n, view(g))
		}
		play(t, g, testkit.ToAndFro(n))
	}
	for n := 400; n >= 0; n-- {
		if g.Count() != n/4+1 || g.Position().Quiet != min(n, 200) || len(g.Moves()) != n {
			t.Fatalf("taken back to %d moves: %s", n, view(g))
		}
		g.Back()
	}
	refuseBack(t, g)
}

// TestP134TakenBackPositionsDoNotCount comes to a position a hundred times, but takes it back each time.
func TestP134TakenBackPositionsDoNotCount(t *testing.T) {
	r := testkit.Steps()
	g := begin(t, r)
	var circle []api.Move
	for n := range 4 {
		circle = append(circle, testkit.ToAndFro(n))
	}
	for range 100 {
		play(t, g, circle...)
		if g.Count() != 2 || g.Result() != api.Draw {
			t.Fatalf("after four moves: %s", view(g))
		}
		back(t, g, 4)
		if g.Count() != 1 || g.Result() != api.Open {
			t.Fatalf("taken back: %s", view(g))
		}
	}
}

// TestP135Repeat has all limits of repetitions: the game goes on until the beginning has occurred so often.
func TestP135Repeat(t *testing.T) {
	for repeat := 2; repeat <= 5; repeat++ {
		r := testkit.Steps()
		r.Repeat = repeat
		g := begin(t, r)
		for n := range 4 * (repeat - 1) {
			if g.Result() != api.Open || g.Count() != n/4+1 {
				t.Errorf("with Repeat %d after %d moves: %s", repeat, n, view(g))
			}
			play(t, g, testkit.ToAndFro(n))
		}
		if g.Result() != api.Draw || g.Count() != repeat {
			t.Errorf("with Repeat %d at the end: %s", repeat, view(g))
		}
		refuse(t, g, api.ErrOver, allMoves(r)...)
	}
}

// TestP135OtherWay plays on in another way after the beginning, which has occurred again, was taken back.
func TestP135OtherWay(t *testing.T) {
	r := testkit.Steps()
	g := begin(t, r)
	for n := range 4 {
		play(t, g, testkit.ToAndFro(n))
	}
	back(t, g, 1)
	play(t, g, move(3, 1))
	if g.Result() != api.WinsSecond || g.Count() != 1 || !slices.Equal(g.Moves(), []api.Move{move(0, 1), move(2, 3), move(1, 0), move(3, 1)}) {
		t.Errorf("after another move: %s", view(g))
	}
}

// TestP136Example has the example of P136.
func TestP136Example(t *testing.T) {
	r := testkit.Steps()
	var l []api.Move
	for n := range 4 {
		l = append(l, testkit.ToAndFro(n))
	}
	p, result, err := plain.Run(r, l)
	want, _ := place.Begin(r)
	if !place.Same(p, want) || p.Quiet != 4 || result != api.Draw || err != api.OK {
		t.Errorf("Run(%+v, %v): %+v, %d, %d", r, l, p, result, err)
	}
}

// TestP136First has several errors in one list: the first move that has one decides.
func TestP136First(t *testing.T) {
	wins := []api.Move{put(0), put(3), put(1), put(4), put(2)}
	taken, outside := put(0), put(9)
	for _, c := range []struct {
		l    []api.Move
		want api.Errno
	}{
		{[]api.Move{outside}, api.ErrMove},
		{[]api.Move{put(0), taken}, api.ErrMove},
		{slices.Concat(wins[:4], []api.Move{taken}), api.ErrMove},
		{slices.Concat(wins[:4], []api.Move{taken, put(2), taken}), api.ErrMove},
		{slices.Concat([]api.Move{move(0, 1)}, wins, []api.Move{put(5)}), api.ErrMove},
		{slices.Concat(wins, []api.Move{put(5)}), api.ErrOver},
		{slices.Concat(wins, []api.Move{taken}), api.ErrOver},
		{slices.Concat(wins, []api.Move{outside, put(5)}), api.ErrOver},
	} {
		refuseRun(t, testkit.Three(), c.l, c.want)
	}
}

// anyMove returns a legal move, if there is one and choose does not want any other.
func anyMove(r api.Rules, g *plain.Game, choose func(n int) int) api.Move {
	l := legalOf(r, g)
	if len(l) == 0 || choose(6) == 0 {
		l = testkit.Candidates(r)
	}
	return l[choose(len(l))]
}

// TestSlow plays moves and takes them back without a pattern. The moves of each game, and those behind its end, are run from the beginning, too.
func TestSlow(t *testing.T) {
	random := rand.New(rand.NewPCG(10, 134))
	seen := map[string]int{}
	for r := range games(600) {
		g, s := begin(t, r), &slowGame{r: r}
		for range 80 {
			what, got, want := "back", api.OK, api.OK
			m := anyMove(r, g, random.IntN)
			// A game that is over is taken back more often, since nothing else can happen in it.
			if goOn := g.Result() == api.Open; random.IntN(2) > 0 || goOn && random.IntN(3) > 0 {
				what, got, want = "play", g.Play(m), s.play(m)
				if want != api.OK {
					refuseRun(t, r, append(slices.Clone(s.l), m), want)
				}
			} else {
				got, want = g.Back(), s.back()
			}
			if got != want {
				t.Fatalf("%s at %s: %d, want %d", what, view(g), got, want)
			}
			expect(t, g, s)
			result, _ := ends.Of(r, g.Position())
			seen[fmt.Sprint(what, want)]++
			seen[fmt.Sprint("result", g.Result(), g.Position().Turn)]++
			seen[fmt.Sprint("count", min(g.Count(), 6))]++
			seen[fmt.Sprint("repeat", r.Repeat, g.Result() != result)]++
		}
		p, result, err := plain.Run(r, s.l)
		if fmt.Sprint(p) != fmt.Sprint(s.position()) || result != s.result() || err != api.OK {
			t.Errorf("Run(%+v, %v): %+v, %d, %d, want %+v, %d", r, s.l, p, result, err, s.position(), s.result())
		}
	}
	for _, what := range []string{"play0", "play13", "play14", "back0", "back8", "result0 0", "result0 1", "result1 0", "result1 1", "result2 0", "result2 1", "result3 0", "result3 1", "count1", "count2", "count3", "count4", "count5", "count6", "repeat0 false", "repeat2 true", "repeat3 true", "repeat4 true", "repeat5 true"} {
		if seen[what] < 50 {
			t.Errorf("%s came up %d times only: %v", what, seen[what], seen)
		}
	}
}

// TestThreeInARow plays all games of three in a row, and counts how they end.
func TestThreeInARow(t *testing.T) {
	r := testkit.Three()
	g := begin(t, r)
	before := view(g)
	var count [4]int
	var walk func()
	walk = func() {
		count[g.Result()]++
		if g.Result() != api.Open {
			return
		}
		for square := range 9 {
			if g.Play(put(square)) == api.OK {
				walk()
				g.Back()
			}
		}
	}
	walk()
	// The known numbers of games; and of all beginnings of games that are not over.
	if want := [4]int{549946 - 255168, 131184, 77904, 46080}; count != want {
		t.Errorf("the games end %v, want %v", count, want)
	}
	if after := view(g); after != before {
		t.Errorf("after all games: %s, want %s", after, before)
	}
}

// TestP500 plays games by rules, and by the rules that are read from their text.
func TestP500(t *testing.T) {
	random := rand.New(rand.NewPCG(10, 500))
	for r := range games(300) {
		text, err := ruletext.Print(r)
		if err != api.OK {
			t.Fatalf("Print(%+v): %d", r, err)
		}
		g, h := begin(t, r), begin(t, rulesOf(t, text))
		for range 40 {
			if got, want := view(h), view(g); got != want {
				t.Fatalf("by the rules %q: %s, want %s", text, got, want)
			}
			m := anyMove(r, g, random.IntN)
			if got, want := h.Play(m), g.Play(m); got != want {
				t.Fatalf("Play(%v) by the rules %q: %d, want %d", m, text, got, want)
			}
		}
	}
}

// TestP506 plays games, takes them back to any point, goes another way and back, and plays on as before.
func TestP506(t *testing.T) {
	random := rand.New(rand.NewPCG(10, 506))
	again := 0
	for r := range games(200) {
		g := begin(t, r)
		walk := func(most int) []string {
			var views []string
			for len(views) < most && g.Result() == api.Open {
				views = append(views, view(g))
				l := legalOf(r, g)
				play(t, g, l[random.IntN(len(l))])
			}
			return views
		}
		views := append(walk(40), view(g))
		l := g.Moves()
		for range 5 {
			point := random.IntN(len(l) + 1)
			back(t, g, len(g.Moves())-point)
			back(t, g, len(walk(5)))
			for i, m := range l[point:] {
				if got := view(g); got != views[point+i] {
					t.Fatalf("again after %d moves: %s, want %s", point+i, got, views[point+i])
				}
				play(t, g, m)
				again++
			}
			if got := view(g); got != views[len(l)] {
				t.Fatalf("again at the end: %s, want %s", got, views[len(l)])
			}
		}
	}
	if again < 2000 {
		t.Errorf("only %d moves were played again", again)
	}
}
