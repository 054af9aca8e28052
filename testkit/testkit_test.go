package testkit_test

import (
	"fmt"
	"math/rand/v2"
	"slices"
	"testing"

	"gamehall/api"
	"gamehall/moves"
	"gamehall/place"
	"gamehall/rules"
	"gamehall/ruletext"
	"gamehall/testkit"
)

// A kit that does not see all memory, or has rules or positions of some kinds only, would let other tests pass that should fail.

func TestSlices(t *testing.T) {
	for _, l := range [][]int{nil, {}, {4}, {4, 5, 6}} {
		r := testkit.Roomy(l, 7)
		if !slices.Equal(r, l) || cap(r) < len(l)+3 {
			t.Errorf("Roomy(%v): %v with the capacity %d", l, r, cap(r))
		}
		whole := testkit.Whole(r)
		if !slices.Equal(whole[:len(l)+3], append(slices.Clone(l), 7, 7, 7)) || len(whole) != cap(r) {
			t.Errorf("Whole: %v", whole)
		}
		testkit.Spoil(r, 9)
		if got := testkit.Whole(r); slices.ContainsFunc(got, func(n int) bool { return n != 9 }) || len(got) != cap(r) {
			t.Errorf("after Spoil: %v", got)
		}
		if whole[len(l)] != 7 {
			t.Errorf("the result of Whole shares memory with the argument: %v", whole)
		}
	}
}

func sample() api.Rules {
	return api.Rules{
		Name: "A", Width: 1, Height: 2,
		Pieces: []api.RulePiece{{Letter: 'A', Hand: 1, Promote: 2, Ways: []api.RuleWay{{DX: 3, DY: 4, Most: 5, Take: 6}}}, {Letter: 'B', Hand: 7, Promote: 8}},
		Start:  []int{9, 10},
		Ends:   []api.RuleEnd{{Kind: 11, Piece: 12, Count: 13}},
		Quiet:  14, Repeat: 15, Blocked: 16,
	}
}

func TestRules(t *testing.T) {
	r := sample()
	roomy := testkit.RoomyRules(r)
	if fmt.Sprint(roomy) != fmt.Sprint(r) {
		t.Errorf("RoomyRules(%v): %v", r, roomy)
	}
	whole := testkit.WholeRules(roomy)
	if len(whole.Pieces) < 5 || len(whole.Pieces[0].Ways) < 4 || len(whole.Pieces[1].Ways) < 3 || len(whole.Start) < 5 || len(whole.Ends) < 4 {
		t.Errorf("WholeRules: %v", whole)
	}
	testkit.SpoilRules(roomy)
	if fmt.Sprint(r) != fmt.Sprint(sample()) {
		t.Errorf("the result of RoomyRules shares memory with the argument: %v", r)
	}
	for _, p := range whole.Pieces {
		if p.Letter == '?' || slices.ContainsFunc(p.Ways, func(w api.RuleWay) bool { return w.DX == -77 }) {
			t.Errorf("the result of WholeRules shares memory with the argument: %v", whole)
		}
	}
}

// TestRuleNumbers has no two numbers at the same place.
func TestRuleNumbers(t *testing.T) {
	r := sample()
	var seen []int
	for _, n := range testkit.RuleNumbers(&r) {
		seen = append(seen, *n)
		*n = -1
	}
	slices.Sort(seen)
	if want := []int{0, 0, 1, 1, 2, 2, 3, 4, 5, 6, 7, 8, 9, 10, 11, 12, 13, 14, 15, 16}; !slices.Equal(seen, want[2:]) {
		t.Errorf("RuleNumbers: %v, want %v", seen, want[2:])
	}
}

func TestBoards(t *testing.T) {
	seen := map[[2]int]bool{}
	for _, b := range testkit.Boards() {
		if b[0] < 1 || b[0] > 8 || b[1] < 1 || b[1] > 8 || seen[b] {
			t.Errorf("Boards has %v, which is no board or comes twice", b)
		}
		seen[b] = true
	}
	if len(seen) != 64 {
		t.Errorf("Boards has %d boards, want 64", len(seen))
	}
}

// TestThree has the first moves of a game.
func TestThree(t *testing.T) {
	r := testkit.Three()
	p, err := place.Begin(r)
	for n := 9; n > 4; n-- {
		l, _ := moves.All(r, p)
		if len(l) != n || err != api.OK {
			t.Errorf("in %+v there are the moves %v, %d, want %d", p, l, err, n)
		}
		p, err = moves.After(r, p, l[0])
	}
}

// TestSteps has a beginning that occurs again with each fourth move, and in which only Second can step on, too.
func TestSteps(t *testing.T) {
	r := testkit.Steps()
	begin, err := place.Begin(r)
	p := begin
	for n := range 400 {
		if again := place.Same(p, begin); again != (n%4 == 0) || err != api.OK {
			t.Fatalf("after %d moves: %+v, %d", n, p, err)
		}
		m := testkit.ToAndFro(n)
		if on, _ := moves.Legal(r, p, api.Move{From: m.From, To: (m.From + 2) % 4}); on != (p.Turn == api.Second) {
			t.Fatalf("after %d moves stepping on is legal: %v", n, on)
		}
		p, err = moves.After(r, p, m)
	}
}

// TestCamp has texts of rules and of a position, in which First can take the last piece of its kind.
func TestCamp(t *testing.T) {
	r, err := ruletext.Parse(testkit.CampRules)
	p, readErr := place.Read(r, testkit.CampPosition)
	legal, legalErr := moves.Legal(r, p, api.Move{From: 6, To: 10, Piece: 1})
	if err != api.OK || readErr != api.OK || !legal || legalErr != api.OK {
		t.Errorf("%+v, %d, %+v, %d, %v, %d", r, err, p, readErr, legal, legalErr)
	}
}

// TestSearched has texts of rules by which the beginnings go on.
func TestSearched(t *testing.T) {
	for _, text := range []string{testkit.FallRules, testkit.PawnRules, testkit.MostRules, testkit.MoreRules} {
		r, err := ruletext.Parse(text)
		p, _ := place.Begin(r)
		if l, _ := moves.All(r, p); len(l) == 0 || err != api.OK {
			t.Errorf("the text %q has rules with the error %d, and first moves %v", text, err, l)
		}
	}
}

// ends returns functions that choose always the least number, or the greatest one, and one that chooses without a pattern.
func ends(seed uint64) []func(n int) int {
	return []func(n int) int{
		func(int) int { return 0 },
		func(n int) int { return n - 1 },
		rand.New(rand.NewPCG(seed, 5)).IntN,
	}
}

// TestAnyRules has only rules that are right, and all sizes, numbers of types, kinds of conditions and limits among them.
func TestAnyRules(t *testing.T) {
	seen := map[string]bool{}
	for seed := range uint64(1000) {
		for _, choose := range ends(seed) {
			r := testkit.AnyRules(choose)
			if err := rules.Check(r); err != api.OK {
				t.Fatalf("AnyRules: %+v, for which Check has %d", r, err)
			}
			seen[fmt.Sprint("size ", r.Width, r.Height)] = true
			seen[fmt.Sprint("types ", len(r.Pieces))] = true
			seen[fmt.Sprint("flags ", r.Falls, r.Keeps)] = true
			seen[fmt.Sprint("ends ", len(r.Ends))] = true
			for _, e := range r.Ends {
				seen[fmt.Sprint("end ", e.Kind, e.Loses)] = true
			}
			seen[fmt.Sprint("blocked ", r.Blocked)] = true
			seen[fmt.Sprint("repeat ", r.Repeat)] = true
		}
	}
	if want := 64 + 6 + 4 + 7 + 6 + 3 + 5; len(seen) != want {
		t.Errorf("AnyRules has %d kinds of rules, want %d: %v", len(seen), want, seen)
	}
}

// TestSmallRules has only rules that are right, with few moves at the beginning, and games that go on and that are over there.
func TestSmallRules(t *testing.T) {
	seen := map[string]bool{}
	for seed := range uint64(1000) {
		for _, choose := range ends(seed) {
			r := testkit.SmallRules(choose)
			p, err := place.Begin(r)
			l, _ := moves.All(r, p)
			if err != api.OK || r.Width > 3 || r.Height > 3 || len(l) > 36 {
				t.Fatalf("SmallRules: %+v, for which Begin has %d, with the moves %v", r, err, l)
			}
			seen[fmt.Sprint("size ", r.Width, r.Height)] = true
			seen[fmt.Sprint("types ", len(r.Pieces))] = true
			seen[fmt.Sprint("flags ", r.Falls, r.Keeps)] = true
			seen[fmt.Sprint("ends ", len(r.Ends))] = true
			seen[fmt.Sprint("blocked ", r.Blocked)] = true
			seen[fmt.Sprint("quiet ", r.Quiet > 0)] = true
			seen[fmt.Sprint("repeat ", r.Repeat)] = true
			seen[fmt.Sprint("moves ", len(l) > 0)] = true
		}
	}
	if want := 4 + 2 + 4 + 2 + 3 + 2 + 5 + 2; len(seen) != want {
		t.Errorf("SmallRules has %d kinds of rules, want %d: %v", len(seen), want, seen)
	}
}

// TestAnyPosition has numbers that are right, at their bounds and between them.
func TestAnyPosition(t *testing.T) {
	seen := map[string]bool{}
	for seed := range uint64(1000) {
		for _, choose := range ends(seed) {
			r := testkit.AnyRules(choose)
			p := testkit.AnyPosition(r, choose)
			if len(p.Cells) != r.Width*r.Height || len(p.Hands[0]) != len(r.Pieces) || len(p.Hands[1]) != len(r.Pieces) {
				t.Fatalf("AnyPosition: %+v for %+v", p, r)
			}
			note := func(what string, n, most int) {
				if n < 0 || n > most {
					t.Fatalf("AnyPosition: %s %d in %+v", what, n, p)
				}
				seen[fmt.Sprint(what, n == 0, n == most)] = true
			}
			for _, cell := range p.Cells {
				note("cell", cell, 2*len(r.Pieces))
			}
			for player, hand := range p.Hands {
				for _, n := range hand {
					note(fmt.Sprint("hand", player), n, 1000)
				}
			}
			note("turn", p.Turn, 1)
			note("quiet", p.Quiet, 200)
		}
	}
	if want := 3 + 3 + 3 + 2 + 3; len(seen) != want {
		t.Errorf("AnyPosition has %d kinds of numbers, want %d: %v", len(seen), want, seen)
	}
}

// TestAnyGame has rules and positions that are right, short and long steps among them, and positions that are as quiet as can be.
func TestAnyGame(t *testing.T) {
	seen := map[string]bool{}
	for seed := range uint64(1000) {
		for _, choose := range ends(seed) {
			r, p := testkit.AnyGame(choose)
			if err := place.Check(r, p); err != api.OK {
				t.Fatalf("AnyGame: %+v, %+v, for which Check has %d", r, p, err)
			}
			for _, piece := range r.Pieces {
				for _, w := range piece.Ways {
					seen[fmt.Sprint("step ", max(w.DX, -w.DX, w.DY, -w.DY) <= 2)] = true
					seen[fmt.Sprint("take ", w.Take)] = true
				}
			}
			seen[fmt.Sprint("quiet ", max(p.Quiet, api.MaxQuiet-3))] = true
			seen[fmt.Sprint("turn ", p.Turn)] = true
			l, _ := moves.All(r, p)
			seen[fmt.Sprint("moves ", len(l) > 0)] = true
		}
	}
	if want := 2 + 3 + 4 + 2 + 2; len(seen) != want {
		t.Errorf("AnyGame has %d kinds of games, want %d: %v", len(seen), want, seen)
	}
}

// TestSearchGame has rules and positions that are right, on small boards and large ones, with and without hands and conditions, and some that one quiet move more or few end.
func TestSearchGame(t *testing.T) {
	seen := map[string]bool{}
	for seed := range uint64(1000) {
		for _, choose := range ends(seed) {
			r, p := testkit.SearchGame(choose)
			if err := place.Check(r, p); err != api.OK {
				t.Fatalf("SearchGame: %+v, %+v, for which Check has %d", r, p, err)
			}
			seen[fmt.Sprint("small ", r.Name == "SMALL")] = true
			seen[fmt.Sprint("hands ", slices.Max(p.Hands[0]) > 0)] = true
			seen[fmt.Sprint("turn ", p.Turn)] = true
			seen[fmt.Sprint("ends ", min(len(r.Ends), 3))] = true
			for _, e := range r.Ends {
				seen[fmt.Sprint("end ", e.Kind, e.Loses)] = true
			}
			if r.Quiet == 0 {
				seen["never quiet"] = true
			} else if left := r.Quiet - p.Quiet; left > 0 {
				seen[fmt.Sprint("left ", min(left, 6))] = true
			}
		}
	}
	if want := 2 + 2 + 2 + 4 + 6 + 1 + 6; len(seen) != want {
		t.Errorf("SearchGame has %d kinds of games, want %d: %v", len(seen), want, seen)
	}
}

// TestCandidates has all legal moves among the candidates, which are in order and different.
func TestCandidates(t *testing.T) {
	choose := rand.New(rand.NewPCG(3, 5)).IntN
	for range 200 {
		r, p := testkit.AnyGame(choose)
		l := testkit.Candidates(r)
		squares := r.Width * r.Height
		if want := (squares + 1) * squares * len(r.Pieces); len(l) != want {
			t.Errorf("Candidates(%+v): %d moves, want %d", r, len(l), want)
		}
		isBefore := func(a, b api.Move) bool {
			return a.From < b.From || a.From == b.From && (a.To < b.To || a.To == b.To && a.Piece < b.Piece)
		}
		for i, m := range l[1:] {
			if !isBefore(l[i], m) {
				t.Fatalf("Candidates(%+v): %v before %v", r, l[i], m)
			}
		}
		legal, _ := moves.All(r, p)
		for _, m := range legal {
			if !slices.Contains(l, m) {
				t.Errorf("Candidates(%+v) leaves out %v", r, m)
			}
		}
	}
}

func TestMovesOf(t *testing.T) {
	want := []api.Move{{From: -1, To: -1, Piece: -1}, {From: -1, To: -1, Piece: 5}, {From: -1, To: 5, Piece: -1}, {From: -1, To: 5, Piece: 5}, {From: 5, To: -1, Piece: -1}, {From: 5, To: -1, Piece: 5}, {From: 5, To: 5, Piece: -1}, {From: 5, To: 5, Piece: 5}}
	if got := testkit.MovesOf([]int{-1, 5}); !slices.Equal(got, want) {
		t.Errorf("MovesOf: %v, want %v", got, want)
	}
	if got := testkit.MovesOf(nil); len(got) != 0 {
		t.Errorf("MovesOf no values: %v", got)
	}
}

func TestPositions(t *testing.T) {
	sample := func() api.Position {
		return api.Position{Cells: []int{1, 2}, Hands: [2][]int{{3}, {4}}, Turn: 5, Quiet: 6}
	}
	p := sample()
	roomy := testkit.RoomyPosition(p)
	if fmt.Sprint(roomy) != fmt.Sprint(p) {
		t.Errorf("RoomyPosition(%v): %v", p, roomy)
	}
	whole := testkit.WholePosition(roomy)
	if len(whole.Cells) < 5 || len(whole.Hands[0]) < 4 || len(whole.Hands[1]) < 4 {
		t.Errorf("WholePosition: %v", whole)
	}
	testkit.SpoilPosition(roomy)
	if fmt.Sprint(p) != fmt.Sprint(sample()) {
		t.Errorf("the result of RoomyPosition shares memory with the argument: %v", p)
	}
	is := func(n int) func(int) bool { return func(m int) bool { return m == n } }
	if slices.ContainsFunc(whole.Cells, is(-88)) || slices.ContainsFunc(whole.Hands[0], is(-99)) || slices.ContainsFunc(whole.Hands[1], is(-99)) {
		t.Errorf("the result of WholePosition shares memory with the argument: %v", whole)
	}
	spoiled := testkit.WholePosition(roomy)
	if slices.ContainsFunc(spoiled.Cells, func(n int) bool { return n != -88 }) || !slices.Equal(spoiled.Hands[0], slices.Repeat([]int{-99}, len(spoiled.Hands[0]))) || !slices.Equal(spoiled.Hands[1], slices.Repeat([]int{-99}, len(spoiled.Hands[1]))) {
		t.Errorf("after SpoilPosition: %v", spoiled)
	}
}

// TestPositionNumbers has no two numbers at the same place.
func TestPositionNumbers(t *testing.T) {
	p := api.Position{Cells: []int{1, 2}, Hands: [2][]int{{3, 4}, {5, 6}}, Turn: 7, Quiet: 8}
	var seen []int
	for _, n := range testkit.PositionNumbers(&p) {
		seen = append(seen, *n)
		*n = -1
	}
	slices.Sort(seen)
	if want := []int{1, 2, 3, 4, 5, 6, 7, 8}; !slices.Equal(seen, want) {
		t.Errorf("PositionNumbers: %v, want %v", seen, want)
	}
}

// TestChanged has each number with each value while the others are as before, and all numbers as often as there are values.
func TestChanged(t *testing.T) {
	r, p := sample(), api.Position{Cells: []int{17, 18}, Hands: [2][]int{{19}, {20}}, Turn: 21, Quiet: 22}
	numbers := func(r api.Rules, p api.Position) []int {
		var l []int
		for _, n := range append(testkit.RuleNumbers(&r), testkit.PositionNumbers(&p)...) {
			l = append(l, *n)
		}
		return l
	}
	before := numbers(r, p)
	values := []int{-1, -2, -3}
	seen, full := map[string]int{}, 0
	for changedRules, changedPosition := range testkit.Changed(r, p, values) {
		after := numbers(changedRules, changedPosition)
		text, changed := "", 0
		for i, n := range after {
			if n != before[i] {
				text, changed = fmt.Sprint(i, n), changed+1
			}
			if n != before[i] && !slices.Contains(values, n) {
				t.Errorf("a number became %d", n)
			}
		}
		switch changed {
		case 1:
			seen[text]++
		case len(before):
			full++
		default:
			t.Errorf("%d numbers of %d are changed", changed, len(before))
		}
		testkit.SpoilRules(changedRules)
		testkit.SpoilPosition(changedPosition)
	}
	if want := 3 * len(before); len(seen) != want || full != 3 {
		t.Errorf("one number is changed in %d ways, want %d, and all %d times, want 3", len(seen), want, full)
	}
	if after := numbers(r, p); !slices.Equal(after, before) {
		t.Errorf("the arguments became %v, want %v", after, before)
	}
	for range testkit.Changed(r, p, values) {
		break // an iterator that goes on here panics
	}
}

// right returns rules with two types and a condition, and a position of their game.
func right() (api.Rules, api.Position) {
	r := api.Rules{
		Name: "A", Width: 1, Height: 2,
		Pieces: []api.RulePiece{{Letter: 'A', Ways: []api.RuleWay{{DX: 1, Most: 1}}}, {Letter: 'B'}},
		Start:  []int{0, 1},
		Ends:   []api.RuleEnd{{Kind: api.EndReach}},
	}
	return r, api.Position{Cells: []int{1, 4}, Hands: [2][]int{{2, 3}, {4, 5}}, Turn: 1, Quiet: 6}
}

// TestStretched has each list of rules and a position without elements, and with more than all limits permit.
func TestStretched(t *testing.T) {
	r, p := right()
	before := fmt.Sprint(r, p)
	seen := map[string]bool{}
	for stretchedRules, stretchedPosition := range testkit.Stretched(r, p) {
		lists := []int{len(stretchedPosition.Cells), len(stretchedPosition.Hands[0]), len(stretchedPosition.Hands[1]), len(stretchedRules.Start), len(stretchedRules.Pieces), len(stretchedRules.Ends)}
		if len(stretchedRules.Pieces) == len(r.Pieces) {
			lists = append(lists, len(stretchedRules.Pieces[0].Ways))
		}
		for i, n := range lists {
			if n == 0 || n == 1<<16 {
				seen[fmt.Sprint(i, n)] = true
			}
		}
		testkit.SpoilRules(stretchedRules)
		testkit.SpoilPosition(stretchedPosition)
	}
	if len(seen) != 2*7 {
		t.Errorf("the lists are without elements, or long, in %d ways, want 14: %v", len(seen), seen)
	}
	if after := fmt.Sprint(r, p); after != before {
		t.Errorf("the arguments became %s, want %s", after, before)
	}
	for range testkit.Stretched(r, p) {
		break // an iterator that goes on here panics
	}
}

// TestWrongs has all errors that rules and positions have, each of them where it is.
func TestWrongs(t *testing.T) {
	r, p := right()
	before := fmt.Sprint(r, p)
	seen := map[string]bool{}
	for _, w := range testkit.Wrongs(r, p) {
		if err := place.Check(w.Rules, w.Position); err != w.Err || err == api.OK {
			t.Errorf("Wrongs has %+v, for which Check has %d", w, err)
		}
		seen[fmt.Sprint(rules.Check(w.Rules) == api.OK, place.Check(r, w.Position), w.Err)] = true
		testkit.SpoilRules(w.Rules)
		testkit.SpoilPosition(w.Position)
	}
	// Wrong positions, and wrong rules with and without them.
	if want := 2 + 7*3; len(seen) != want {
		t.Errorf("Wrongs has %d kinds of errors, want %d: %v", len(seen), want, seen)
	}
	if after := fmt.Sprint(r, p); after != before {
		t.Errorf("the arguments became %s, want %s", after, before)
	}
}
