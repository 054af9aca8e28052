package place_test

import (
	"fmt"
	"math"
	"math/rand/v2"
	"regexp"
	"slices"
	"strconv"
	"strings"
	"testing"

	"gamehall/api"
	"gamehall/place"
	"gamehall/rules"
	"gamehall/testkit"
)

// The tests hold package place against positions and texts that are written out and changed in one or two places, and against slow definitions: a check that notes down all that is wrong, a walk from row to row, and a reader made of regular expressions.

// extremes are ints at and beyond all the bounds that occur in the chapter.
var extremes = []int{math.MinInt, math.MinInt + 1, -1000, -2, -1, 0, 1, 2, 3, 5, 6, 7, 8, 199, 200, 201, 999, 1000, 1001, 1 << 32, math.MaxInt - 1, math.MaxInt}

// sample returns rules with three types, whose letters are not in the order of the alphabet.
func sample() api.Rules {
	return api.Rules{
		Name: "SAMPLE", Width: 3, Height: 4,
		Pieces: []api.RulePiece{
			{Letter: 'K', Ways: []api.RuleWay{{DX: 1, Most: 1, Take: api.TakeMay}}},
			{Letter: 'A', Hand: 2, Promote: 3, Ways: []api.RuleWay{{DY: 1, Most: 1, Take: api.TakeNever}}},
			{Letter: 'Z', Hand: 64},
		},
		Start: []int{
			5, 1, 0,
			3, 3, 3,
			4, 0, 4,
			6, 2, 6,
		},
		Falls: true, Keeps: true, Ends: []api.RuleEnd{{Kind: api.EndTake, Count: 1}}, Quiet: 50, Repeat: 3,
	}
}

// middle returns a position of the sample, with numbers off their bounds.
func middle() api.Position {
	return api.Position{
		Cells: []int{
			0, 1, 0,
			0, 0, 3,
			6, 0, 0,
			0, 0, 0,
		},
		Hands: [2][]int{{1, 10, 999}, {0, 3, 0}},
		Turn:  1,
		Quiet: 20,
	}
}

const middleText = "3/z2/2A/1K1 K1A10Z999 A3 2 20"

// board returns rules with an empty board and types with letters.
func board(w, h int, letters string) api.Rules {
	r := api.Rules{Name: "B", Width: w, Height: h, Start: make([]int, w*h)}
	for _, letter := range []byte(letters) {
		r.Pieces = append(r.Pieces, api.RulePiece{Letter: letter})
	}
	return r
}

// bare returns a position of a board with nothing on it.
func bare(r api.Rules) api.Position {
	return api.Position{Cells: make([]int, r.Width*r.Height), Hands: [2][]int{make([]int, len(r.Pieces)), make([]int, len(r.Pieces))}}
}

// A pair is a position with the rules of its game.
type pair struct {
	r api.Rules
	p api.Position
}

// all returns positions of all kinds that are right, the same for each call.
func all() []pair {
	l := []pair{{sample(), middle()}}
	for w := 1; w <= 8; w++ {
		for h := 1; h <= 8; h++ {
			r := board(w, h, "A")
			l = append(l, pair{r, bare(r)})
		}
	}
	random := rand.New(rand.NewPCG(5, 118))
	for range 600 {
		r := testkit.AnyRules(random.IntN)
		l = append(l, pair{r, testkit.AnyPosition(r, random.IntN)})
	}
	return l
}

// equal compares all that positions say; a nil slice is an empty one.
func equal(a, b api.Position) bool {
	return fmt.Sprint(a) == fmt.Sprint(b)
}

// wrongRules returns rules with errors of rules.Check, one of each kind among them.
func wrongRules() []api.Rules {
	l := []api.Rules{{}}
	for _, change := range []func(r *api.Rules){
		func(r *api.Rules) { r.Name = "a" },
		func(r *api.Rules) { r.Width = 0 },
		func(r *api.Rules) { r.Height = 9 },
		func(r *api.Rules) { r.Width, r.Height = -3, -4 },
		func(r *api.Rules) { r.Pieces = nil },
		func(r *api.Rules) { r.Pieces = slices.Repeat(r.Pieces, 3) },
		func(r *api.Rules) { r.Pieces[0].Letter = 'k' },
		func(r *api.Rules) { r.Pieces[2].Letter = 'K' },
		func(r *api.Rules) { r.Start = nil },
		func(r *api.Rules) { r.Start = append(r.Start, 0) },
		func(r *api.Rules) { r.Ends = slices.Repeat(r.Ends, 7) },
		func(r *api.Rules) { r.Ends[0].Kind = 3 },
		func(r *api.Rules) { r.Repeat = 1 },
	} {
		r := sample()
		change(&r)
		l = append(l, r)
	}
	r := sample()
	for i := range testkit.RuleNumbers(&r) {
		for _, n := range []int{-1, 1000, math.MinInt, math.MaxInt} {
			r := sample()
			*testkit.RuleNumbers(&r)[i] = n
			if rules.Check(r) != api.OK {
				l = append(l, r)
			}
		}
	}
	return l
}

// TestP118WrongRules has wrong rules in front of positions and texts that are right, and of others that are wrong.
func TestP118WrongRules(t *testing.T) {
	seen := map[api.Errno]bool{}
	for _, r := range wrongRules() {
		want := rules.Check(r)
		seen[want] = true
		if p, err := place.Begin(r); !equal(p, api.Position{}) || err != want {
			t.Errorf("Begin(%+v): %v, %d, want nothing, %d", r, p, err, want)
		}
		for _, p := range []api.Position{middle(), {}, {Cells: make([]int, 12)}, {Cells: slices.Repeat([]int{-1}, 12), Hands: middle().Hands}} {
			if err := place.Check(r, p); err != want {
				t.Errorf("Check(%+v, %v): %d, want %d", r, p, err, want)
			}
			if o, err := place.Other(r, p); !equal(o, api.Position{}) || err != want {
				t.Errorf("Other(%+v, %v): %v, %d, want nothing, %d", r, p, o, err, want)
			}
			if s, err := place.Text(r, p); s != "" || err != want {
				t.Errorf("Text(%+v, %v): %q, %d, want nothing, %d", r, p, s, err, want)
			}
			if q, err := place.Clone(r, p); !equal(q, api.Position{}) || err != want {
				t.Errorf("Clone(%+v, %v): %v, %d, want nothing, %d", r, p, q, err, want)
			}
		}
		for _, s := range []string{middleText, "", "?", strings.Repeat("3", 8193)} {
			if p, err := place.Read(r, s); !equal(p, api.Position{}) || err != want {
				t.Errorf("Read(%+v, %q): %v, %d, want nothing, %d", r, s, p, err, want)
			}
		}
	}
	for _, err := range []api.Errno{api.ErrName, api.ErrRange, api.ErrNone, api.ErrLarge, api.ErrTwice, api.ErrForm, api.ErrArg} {
		if !seen[err] {
			t.Errorf("the error %d did not come up", err)
		}
	}
}

// A change makes a position of the sample wrong, or keeps it right.
type change struct {
	what string
	do   func(p *api.Position)
	want api.Errno
}

// wrongs returns changes for each error of Check that a position has, in the order of the chapter. Later ones can be done before earlier ones.
func wrongs() []change {
	return []change{
		{"no cells", func(p *api.Position) { p.Cells = nil }, api.ErrForm},
		{"a cell too few", func(p *api.Position) { p.Cells = p.Cells[:len(p.Cells)-1] }, api.ErrForm},
		{"a cell too many", func(p *api.Position) { p.Cells = append(p.Cells, 0) }, api.ErrForm},
		{"no hand of First", func(p *api.Position) { p.Hands[0] = nil }, api.ErrForm},
		{"a short hand of First", func(p *api.Position) { p.Hands[0] = make([]int, 2) }, api.ErrForm},
		{"a long hand of First", func(p *api.Position) { p.Hands[0] = make([]int, 4) }, api.ErrForm},
		{"no hand of Second", func(p *api.Position) { p.Hands[1] = nil }, api.ErrForm},
		{"a short hand of Second", func(p *api.Position) { p.Hands[1] = make([]int, 2) }, api.ErrForm},
		{"a long hand of Second", func(p *api.Position) { p.Hands[1] = make([]int, 4) }, api.ErrForm},
		{"two hands in one", func(p *api.Position) { p.Hands = [2][]int{make([]int, 6), nil} }, api.ErrForm},
		{"a first cell of no type", func(p *api.Position) { p.Cells[0] = 7 }, api.ErrRange},
		{"a last cell below 0", func(p *api.Position) { p.Cells[11] = -1 }, api.ErrRange},
		{"too many in the hand of First", func(p *api.Position) { p.Hands[0][0] = 1001 }, api.ErrRange},
		{"less than nothing in the hand of Second", func(p *api.Position) { p.Hands[1][2] = -1 }, api.ErrRange},
		{"the turn of nobody", func(p *api.Position) { p.Turn = 2 }, api.ErrRange},
		{"the turn of somebody before", func(p *api.Position) { p.Turn = -1 }, api.ErrRange},
		{"too quiet", func(p *api.Position) { p.Quiet = 201 }, api.ErrRange},
		{"not quiet enough", func(p *api.Position) { p.Quiet = -1 }, api.ErrRange},
	}
}

// try has all functions with a position whose error is known.
func try(t *testing.T, what string, r api.Rules, p api.Position, want api.Errno) {
	t.Helper()
	if err := place.Check(r, p); err != want {
		t.Errorf("%s: Check: %d, want %d", what, err, want)
	}
	if o, err := place.Other(r, p); err != want || err != api.OK && !equal(o, api.Position{}) {
		t.Errorf("%s: Other: %v, %d, want %d", what, o, err, want)
	}
	if s, err := place.Text(r, p); err != want || err != api.OK && s != "" {
		t.Errorf("%s: Text: %q, %d, want %d", what, s, err, want)
	}
	same := p
	if want != api.OK {
		same = api.Position{}
	}
	if q, err := place.Clone(r, p); err != want || !equal(q, same) {
		t.Errorf("%s: Clone: %v, %d, want %v, %d", what, q, err, same, want)
	}
}

func TestP118Wrong(t *testing.T) {
	try(t, "the sample", sample(), middle(), api.OK)
	for i, c := range wrongs() {
		p := middle()
		c.do(&p)
		try(t, c.what, sample(), p, c.want)
		for _, later := range wrongs()[i+1:] {
			// Two lists without the form could make one that has it.
			if c.want == api.ErrForm && later.want == api.ErrRange {
				p := middle()
				later.do(&p)
				c.do(&p)
				try(t, c.what+", and "+later.what, sample(), p, c.want)
			}
		}
	}
}

// TestP118Bounds has the numbers at their bounds and beyond, one at a time, on boards with one to six types.
func TestP118Bounds(t *testing.T) {
	for types := 1; types <= 6; types++ {
		r := board(3, 2, "FEDCBA"[:types])
		p := bare(r)
		for i := range testkit.PositionNumbers(&p) {
			for _, n := range append(extremes, 2*types-1, 2*types, 2*types+1) {
				p := bare(r)
				*testkit.PositionNumbers(&p)[i] = n
				most := 1000
				switch {
				case i == 0: // the turn
					most = 1
				case i == 1: // the quiet moves
					most = 200
				case i < 2+6: // a cell
					most = 2 * types
				}
				want := api.OK
				if n < 0 || n > most {
					want = api.ErrRange
				}
				try(t, fmt.Sprintf("number %d is %d with %d types", i, n, types), r, p, want)
			}
		}
	}
}

// TestP118Sizes has lists of all lengths on boards of all sizes.
func TestP118Sizes(t *testing.T) {
	for w := 1; w <= 8; w++ {
		for h := 1; h <= 8; h++ {
			for _, n := range []int{0, w, h, w*h - 1, w * h, w*h + 1, 64, 65} {
				r := board(w, h, "AB")
				p := bare(r)
				p.Cells = make([]int, n)
				want := api.OK
				if n != w*h {
					want = api.ErrForm
				}
				try(t, fmt.Sprintf("%d cells on a board of %d by %d", n, w, h), r, p, want)
			}
		}
	}
	for types := 1; types <= 6; types++ {
		for first := range 9 {
			for second := range 9 {
				r := board(2, 2, "FEDCBA"[:types])
				p := bare(r)
				p.Hands = [2][]int{make([]int, first), make([]int, second)}
				want := api.OK
				if first != types || second != types {
					want = api.ErrForm
				}
				try(t, fmt.Sprintf("hands of %d and %d numbers with %d types", first, second, types), r, p, want)
			}
		}
	}
}

// slowCheck notes down all that is wrong with a position, in the order of the chapter, and returns what it noted first.
func slowCheck(r api.Rules, p api.Position) api.Errno {
	noted := []api.Errno{}
	note := func(err api.Errno, wrong bool) {
		if wrong {
			noted = append(noted, err)
		}
	}
	note(rules.Check(r), rules.Check(r) != api.OK)
	note(api.ErrForm, len(p.Cells) != r.Width*r.Height)
	for _, hand := range p.Hands {
		note(api.ErrForm, len(hand) != len(r.Pieces))
	}
	for _, cell := range p.Cells {
		note(api.ErrRange, cell < 0 || cell > 2*len(r.Pieces))
	}
	for _, hand := range p.Hands {
		for _, n := range hand {
			note(api.ErrRange, n < 0 || n > 1000)
		}
	}
	note(api.ErrRange, p.Turn != api.First && p.Turn != api.Second)
	note(api.ErrRange, p.Quiet < 0 || p.Quiet > 200)
	return append(noted, api.OK)[0]
}

// TestP118Scattered changes up to two numbers, and sometimes a list, of rules and positions without a pattern.
func TestP118Scattered(t *testing.T) {
	random := rand.New(rand.NewPCG(5, 1))
	seen := map[api.Errno]int{}
	for range 20000 {
		r := testkit.AnyRules(random.IntN)
		p := testkit.AnyPosition(r, random.IntN)
		for range random.IntN(3) {
			l := testkit.PositionNumbers(&p)
			*l[random.IntN(len(l))] = extremes[random.IntN(len(extremes))]
		}
		switch random.IntN(20) {
		case 0:
			p.Cells = make([]int, random.IntN(70))
		case 1:
			p.Hands[random.IntN(2)] = make([]int, random.IntN(8))
		case 2:
			l := testkit.RuleNumbers(&r)
			*l[random.IntN(len(l))] = extremes[random.IntN(len(extremes))]
		}
		want := slowCheck(r, p)
		seen[want]++
		try(t, fmt.Sprintf("%+v of %+v", p, r), r, p, want)
	}
	for _, err := range []api.Errno{api.OK, api.ErrForm, api.ErrRange} {
		if seen[err] < 200 {
			t.Errorf("the error %d came up %d times only", err, seen[err])
		}
	}
}

func TestP119Begin(t *testing.T) {
	want := api.Position{Cells: []int{5, 1, 0, 3, 3, 3, 4, 0, 4, 6, 2, 6}, Hands: [2][]int{{0, 2, 64}, {0, 2, 64}}}
	if got, err := place.Begin(sample()); !equal(got, want) || err != api.OK {
		t.Errorf("Begin: %+v, %d, want %+v", got, err, want)
	}
	for _, c := range all() {
		p, err := place.Begin(c.r)
		if !slices.Equal(p.Cells, c.r.Start) || p.Turn != api.First || p.Quiet != 0 || err != api.OK {
			t.Errorf("Begin(%+v): %+v, %d", c.r, p, err)
		}
		for _, hand := range p.Hands {
			if !slices.EqualFunc(hand, c.r.Pieces, func(n int, piece api.RulePiece) bool { return n == piece.Hand }) {
				t.Errorf("Begin(%+v): %+v", c.r, p)
			}
		}
		try(t, "the beginning", c.r, p, api.OK)
	}
}

func TestP119Same(t *testing.T) {
	p := middle()
	for i := range testkit.PositionNumbers(&p) {
		for _, n := range extremes {
			q := middle()
			spot := testkit.PositionNumbers(&q)[i]
			want := *spot == n || spot == &q.Quiet
			*spot = n
			if place.Same(p, q) != want || place.Same(q, p) != want {
				t.Errorf("Same(%v, %v): %t, %t, want %t", p, q, place.Same(p, q), place.Same(q, p), want)
			}
		}
	}
	for _, c := range all() {
		q := testkit.RoomyPosition(c.p)
		q.Quiet = 200 - q.Quiet
		if !place.Same(c.p, c.p) || !place.Same(c.p, q) || !place.Same(q, c.p) {
			t.Errorf("%v and %v are not the same", c.p, q)
		}
	}
}

// TestP119SameForms has positions of no game, too: Same knows no rules.
func TestP119SameForms(t *testing.T) {
	for _, c := range []struct {
		p, q api.Position
		want bool
	}{
		{api.Position{}, api.Position{}, true},
		{api.Position{}, api.Position{Cells: []int{}, Hands: [2][]int{{}, {}}}, true},
		{api.Position{Quiet: -5}, api.Position{Quiet: math.MaxInt}, true},
		{api.Position{Turn: 7}, api.Position{Turn: 7}, true},
		{api.Position{}, api.Position{Turn: 1}, false},
		{api.Position{}, api.Position{Cells: []int{0}}, false},
		{api.Position{}, api.Position{Hands: [2][]int{{0}, {}}}, false},
		{api.Position{}, api.Position{Hands: [2][]int{{}, {0}}}, false},
		{api.Position{Cells: []int{1, 2}}, api.Position{Cells: []int{1}}, false},
		{api.Position{Cells: []int{1, 2}}, api.Position{Cells: []int{2, 1}}, false},
		{api.Position{Hands: [2][]int{{1}, {2}}}, api.Position{Hands: [2][]int{{2}, {1}}}, false},
		{api.Position{Hands: [2][]int{{1, 2}, {3}}}, api.Position{Hands: [2][]int{{1}, {2, 3}}}, false},
		{api.Position{Cells: []int{1}}, api.Position{Hands: [2][]int{{1}, nil}}, false},
		{api.Position{Cells: []int{-1}, Hands: [2][]int{{-2}, {-3}}}, api.Position{Cells: []int{-1}, Hands: [2][]int{{-2}, {-3}}}, true},
	} {
		if place.Same(c.p, c.q) != c.want || place.Same(c.q, c.p) != c.want {
			t.Errorf("Same(%+v, %+v): %t, %t, want %t", c.p, c.q, place.Same(c.p, c.q), place.Same(c.q, c.p), c.want)
		}
	}
}

// slowOther puts the rows together from the top one down.
func slowOther(r api.Rules, p api.Position) api.Position {
	o := api.Position{Hands: [2][]int{p.Hands[1], p.Hands[0]}, Turn: map[int]int{0: 1, 1: 0}[p.Turn], Quiet: p.Quiet}
	for y := r.Height; y > 0; y-- {
		for x := range r.Width {
			o.Cells = append(o.Cells, []int{0, 2, 1, 4, 3, 6, 5, 8, 7, 10, 9, 12, 11}[p.Cells[r.Width*(y-1)+x]])
		}
	}
	return o
}

func TestP120Other(t *testing.T) {
	want := api.Position{
		Cells: []int{
			0, 0, 0,
			5, 0, 0,
			0, 0, 4,
			0, 2, 0,
		},
		Hands: [2][]int{{0, 3, 0}, {1, 10, 999}},
		Turn:  0,
		Quiet: 20,
	}
	if got, err := place.Other(sample(), middle()); !equal(got, want) || err != api.OK {
		t.Errorf("Other: %+v, %d, want %+v", got, err, want)
	}
	for _, c := range all() {
		want := slowOther(c.r, c.p)
		got, err := place.Other(c.r, c.p)
		if !equal(got, want) || err != api.OK {
			t.Errorf("Other(%+v, %+v): %+v, %d, want %+v", c.r, c.p, got, err, want)
		}
		if again, err := place.Other(c.r, got); !equal(again, c.p) || err != api.OK {
			t.Errorf("Other of Other of %+v: %+v, %d", c.p, again, err)
		}
	}
}

// TestP120OtherAndMirror has the games in which the players are exchanged.
func TestP120OtherAndMirror(t *testing.T) {
	for _, c := range all() {
		m, _ := rules.Mirror(c.r)
		o, _ := place.Other(c.r, c.p)
		try(t, "the other position in the other game", m, o, api.OK)
		if back, err := place.Other(m, o); !equal(back, c.p) || err != api.OK {
			t.Errorf("Other of %+v in the other game: %+v, %d, want %+v", o, back, err, c.p)
		}
		p, _ := place.Begin(c.r)
		q, _ := place.Begin(m)
		p, _ = place.Other(c.r, p)
		if q.Turn = api.Second; !place.Same(p, q) {
			t.Errorf("the beginnings of %+v: %+v and %+v", c.r, p, q)
		}
	}
}

// slowText writes points for empty squares and then counts them.
func slowText(r api.Rules, p api.Position) string {
	cells := "."
	for _, piece := range r.Pieces {
		cells += string(rune(piece.Letter)) + strings.ToLower(string(rune(piece.Letter)))
	}
	var rows []string
	for y := range r.Height {
		row := ""
		for x := range r.Width {
			row += cells[p.Cells[y*r.Width+x] : p.Cells[y*r.Width+x]+1]
		}
		row = matcher(`\.+`).ReplaceAllStringFunc(row, func(points string) string { return fmt.Sprint(len(points)) })
		rows = append([]string{row}, rows...)
	}
	hands := [2]string{}
	for player, hand := range p.Hands {
		for kind, n := range hand {
			if n != 0 {
				hands[player] += fmt.Sprintf("%c%d", r.Pieces[kind].Letter, n)
			}
		}
		if hands[player] == "" {
			hands[player] = "-"
		}
	}
	return fmt.Sprintf("%s %s %s %d %d", strings.Join(rows, "/"), hands[0], hands[1], p.Turn+1, p.Quiet)
}

// written returns positions with their texts.
func written() map[string]pair {
	most := board(8, 8, "ZYXWVU")
	full := bare(most)
	for i := range full.Cells {
		full.Cells[i] = i%12 + 1
	}
	for kind := range 6 {
		full.Hands[0][kind], full.Hands[1][kind] = 1000, 1000-kind
	}
	full.Turn, full.Quiet = 1, 200
	five := board(3, 3, "A")
	example := bare(five)
	example.Hands = [2][]int{{5}, {5}}
	return map[string]pair{
		"3/3/3 A5 A5 1 0":         {five, example},
		middleText:                {sample(), middle()},
		"1 - - 1 0":               {board(1, 1, "A"), bare(board(1, 1, "A"))},
		"8 - - 1 0":               {board(8, 1, "A"), bare(board(8, 1, "A"))},
		"1/1/1/1/1/1/1/1 - - 1 0": {board(1, 8, "A"), bare(board(1, 8, "A"))},
		"VvUuZzYy/ZzYyXxWw/XxWwVvUu/VvUuZzYy/ZzYyXxWw/XxWwVvUu/VvUuZzYy/ZzYyXxWw Z1000Y1000X1000W1000V1000U1000 Z1000Y999X998W997V996U995 2 200": {most, full},
		"A1a1A1a A1 B1 2 9":      {board(7, 1, "AB"), api.Position{Cells: []int{1, 0, 2, 0, 1, 0, 2}, Hands: [2][]int{{1, 0}, {0, 1}}, Turn: 1, Quiet: 9}},
		"2b2Aa1/7B B20A3 - 1 10": {board(8, 2, "BA"), api.Position{Cells: []int{0, 0, 0, 0, 0, 0, 0, 1, 0, 0, 2, 0, 0, 3, 4, 0}, Hands: [2][]int{{20, 3}, {0, 0}}, Quiet: 10}},
	}
}

func TestP121Written(t *testing.T) {
	for want, c := range written() {
		if got, err := place.Text(c.r, c.p); got != want || err != api.OK {
			t.Errorf("Text(%+v): %q, %d, want %q", c.p, got, err, want)
		}
		if got, err := place.Read(c.r, want); !equal(got, c.p) || err != api.OK {
			t.Errorf("Read(%q): %+v, %d, want %+v", want, got, err, c.p)
		}
	}
}

func TestP121Text(t *testing.T) {
	for _, c := range all() {
		want := slowText(c.r, c.p)
		if got, err := place.Text(c.r, c.p); got != want || err != api.OK {
			t.Errorf("Text(%+v, %+v): %q, %d, want %q", c.r, c.p, got, err, want)
		}
		if len(want) > api.MaxText {
			t.Errorf("the text of %+v has %d bytes", c.p, len(want))
		}
	}
}

// TestP121AllRows has all rows of a board with one type and up to six columns.
func TestP121AllRows(t *testing.T) {
	for w := 1; w <= 6; w++ {
		r := board(w, 1, "Q")
		p := bare(r)
		seen := map[string]bool{}
		for code := range int(math.Pow(3, float64(w))) {
			for x := range w {
				p.Cells[x] = code % 3
				code /= 3
			}
			s, err := place.Text(r, p)
			if want := slowText(r, p); s != want || err != api.OK || seen[s] {
				t.Errorf("Text of %v: %q, %d, want %q", p.Cells, s, err, want)
			}
			seen[s] = true
			compare(t, r, s)
		}
	}
}

func TestP122ReadsWhatIsWritten(t *testing.T) {
	for _, c := range all() {
		s := slowText(c.r, c.p)
		if got, err := place.Read(c.r, s); !equal(got, c.p) || err != api.OK {
			t.Errorf("Read(%+v, %q): %+v, %d, want %+v", c.r, s, got, err, c.p)
		}
	}
}

// matcher compiles each expression once.
func matcher(expression string) *regexp.Regexp {
	if matchers[expression] == nil {
		matchers[expression] = regexp.MustCompile(expression)
	}
	return matchers[expression]
}

var matchers = map[string]*regexp.Regexp{}

// slowRead reports whether a text is that of a position, and returns it.
func slowRead(r api.Rules, s string) (api.Position, bool) {
	cells, hand := ".", ""
	for _, piece := range r.Pieces {
		letter := string(rune(piece.Letter))
		cells += letter + strings.ToLower(letter)
		hand += `(?:` + letter + `([1-9][0-9]{0,2}|1000))?`
	}
	whole := matcher(`^([1-8/` + cells[1:] + `]*) (-|` + hand + `) (-|` + hand + `) ([12]) (0|[1-9][0-9]?|1[0-9][0-9]|200)$`)
	m := whole.FindStringSubmatch(s)
	if m == nil || m[2] == "" || m[3+len(r.Pieces)] == "" || matcher(`[0-9][0-9]`).MatchString(m[1]) {
		return api.Position{}, false
	}
	number := func(i int) int {
		n, _ := strconv.Atoi("0" + m[i])
		return n
	}
	p := bare(r)
	for kind := range r.Pieces {
		p.Hands[0][kind], p.Hands[1][kind] = number(3+kind), number(4+len(r.Pieces)+kind)
	}
	p.Turn, p.Quiet = number(len(m)-2)-1, number(len(m)-1)
	rows := strings.Split(m[1], "/")
	for i, row := range rows {
		row = matcher(`[1-8]`).ReplaceAllStringFunc(row, func(n string) string { return "........"[:n[0]-'0'] })
		if len(rows) != r.Height || len(row) != r.Width {
			return api.Position{}, false
		}
		for x, c := range row {
			p.Cells[(r.Height-1-i)*r.Width+x] = strings.IndexRune(cells, c)
		}
	}
	return p, true
}

// compare holds Read against the slow definition, and against Text.
func compare(t *testing.T, r api.Rules, s string) api.Errno {
	t.Helper()
	want, ok := slowRead(r, s)
	wrong := api.OK
	switch {
	case len(s) > 8192:
		want, wrong = api.Position{}, api.ErrLarge
	case !ok:
		wrong = api.ErrSyntax
	}
	got, err := place.Read(r, s)
	if !equal(got, want) || err != wrong {
		t.Fatalf("Read(%q): %+v, %d, want %+v, %d", s, got, err, want, wrong)
	}
	if err == api.OK {
		if text, _ := place.Text(r, got); text != s || place.Check(r, got) != api.OK {
			t.Fatalf("Text of what Read has read: %q, want %q", text, s)
		}
	}
	return err
}

// TestP122Wrong has texts that are those of no position of the sample.
func TestP122Wrong(t *testing.T) {
	const rows, hands, rest = "3/z2/2A/1K1", "K1A10Z999 A3", "2 20"
	var l []string
	for _, s := range []string{
		"", "/", "3", "12", "9", "4444", "zA", "3/z2/2A", "3/z2/2A/1K1/3", "/3/z2/2A/1K1", "3/z2/2A/1K1/", "3//z2/2A/1K1", "3/z2/2A/1K1//", "3/z2//1K1",
		"3z22A1K1", "3\\z2\\2A\\1K1", "3/z2/2A/1K", "3/z2/2A/1K2", "3/z2/2A/K1", "3/z2/2A/2K1", "4/z1/2A/1K1", "3/z3/1A/1K1", "2/z3/2A/1K1", "3/z2/2A/1K11",
		"21/z2/2A/1K1", "12/z2/2A/1K1", "111/z2/2A/1K1", "3/z11/2A/1K1", "3/z2/11A/1K1", "0/z2/2A/1K1", "30/z2/2A/1K1", "03/z2/2A/1K1", "3/z02/2A/1K1", "3/z20/2A/1K1", "3/0z2/2A/1K1",
		".../z../..A/.K.", "3/z2/2A/.K1", "   /z2/2A/1K1", "-/z2/2A/1K1", "+3/z2/2A/1K1", "-3/z2/2A/1K1", "3/z2/2A/1K1\n", "\n3/z2/2A/1K1", "3/z2/2A/1K1\x00", "3/z2/2A/1k\u0131",
		"3/z2/2A/1L1", "3/z2/2A/1l1", "3/z2/2B/1K1", "3/[2/2A/1K1", "3/y2/2A/1K1", "3/\xfa2/2A/1K1", "3/z2/2\xc4/1K1", "3/z2/2\u00c4/1K1", "3/z2/2\u0391/1K1", "3/z2/1\u00c4/1K1", "\u0663/z2/2A/1K1", "3/z2/2A/1\xcb1", "3/z2/2A/1\x0b1", "3/z2/2A/1+1", "3/z2/2A/1@1",
	} {
		l = append(l, s+" "+hands+" "+rest)
	}
	for _, s := range []string{
		"", "-", "- ", " -", "-- -", "- --", "- - -", "0 -", "K -", "- K", "K0 -", "- K0", "K00 -", "K01 -", "K1A0 -", "K0A1 -", "K+1 -", "K-1 -", "K1001 -", "- Z1001", "K01000 -", "K10000 -",
		"K9223372036854775807 -", "K9223372036854775808 -", "K18446744073709551617 -", "- A-9223372036854775808", "K4294967297 -", "K1.0 -", "K1e1 -", "K0x1 -", "K1_0 -", "K1, -", "K\u0661 -",
		"A1K1 -", "Z1A1 -", "K1Z1A1 -", "K1K1 -", "K1A1K1 -", "K1AA1 -", "KA1 -", "K1A -", "1K -", "K1-", "K1- -", "-K1 -", "k1 -", "K1a1 -", "- z1", "B1 -", "K1B1 -", "B1K1 -", "K1/A1 -", "K1,A1 -", "K1 A1 -", "K1A1", "K1\x00 -", "K1\n -", "K 1 -", "1 -", "11 -",
	} {
		l = append(l, rows+" "+s+" "+rest)
	}
	for _, s := range []string{
		"", "2", "20", "2  20", "0 20", "3 20", "-1 20", "+2 20", "02 20", "12 20", "F 20", "- 20", "9223372036854775808 20", "-9223372036854775808 20", "18446744073709551617 20", "1\x00 20", "\u0661 20", "x 20",
		"2 ", "2 020", "2 +20", "2 -20", "2 -0", "2 +0", "2 00", "2 201", "2 999", "2 2000", "2 1000", "2 x", "2 2x", "2 -", "2 20 ", " 2 20", "2 20\n", "2 20\r", "2 20\x00", "2 20 20", "2\t20", "2 9223372036854775807", "2 9223372036854775808", "2 18446744073709551616", "2 -1", "2 0x10", "2 1e1", "2 1_0", "2 2.0", "2 \u0662",
	} {
		l = append(l, rows+" "+hands+" "+s)
	}
	l = append(l, "", " ", "    ", "     ", "\n", "\x00", "\xff", "1", "- - - - -", hands+" "+rows+" "+rest, rows+" "+rest+" "+hands, middleText+" ", " "+middleText, middleText+" "+middleText, middleText+"\n"+middleText,
		strings.ReplaceAll(middleText, " ", "\t"), strings.ReplaceAll(middleText, " ", "  "), strings.ReplaceAll(middleText, " ", ""), strings.ToLower(middleText))
	for _, s := range l {
		if p, err := place.Read(sample(), s); !equal(p, api.Position{}) || err != api.ErrSyntax {
			t.Errorf("Read(%q): %+v, %d, want nothing, %d", s, p, err, api.ErrSyntax)
		}
		compare(t, sample(), s)
	}
}

// TestP122OtherGames has texts of positions of games with another board or other types; no two of these games have one of them in common.
func TestP122OtherGames(t *testing.T) {
	for s, c := range written() {
		for from, other := range written() {
			if err := compare(t, other.r, s); (err == api.OK) != (s == from) {
				t.Errorf("Read(%+v, %q): %d, a text for %+v", other.r, s, err, c.r)
			}
		}
	}
}

func TestP122Large(t *testing.T) {
	for _, c := range []struct {
		s    string
		want api.Errno
	}{
		{strings.Repeat(" ", 8192), api.ErrSyntax},
		{strings.Repeat(" ", 8193), api.ErrLarge},
		{strings.Repeat("9", 8192), api.ErrSyntax},
		{strings.Repeat("9", 8193), api.ErrLarge},
		{strings.Repeat("/", 8192), api.ErrSyntax},
		{middleText + strings.Repeat(" ", 8192-len(middleText)), api.ErrSyntax},
		{middleText + strings.Repeat(" ", 8193-len(middleText)), api.ErrLarge},
		{middleText + strings.Repeat("0", 8192-len(middleText)), api.ErrSyntax},
		{strings.Repeat("A", 8192-9) + " - - 1 0", api.ErrSyntax},
		{strings.Repeat("9", 8192-8) + " - - 1 0", api.ErrSyntax},
		{strings.Repeat("3/", 4090) + "3 - - 1 0", api.ErrSyntax},
		{strings.Repeat("\u00c4", 4096), api.ErrSyntax},
		{strings.Repeat("\u00c4", 4097), api.ErrLarge},
		{strings.Repeat("x", 1<<20), api.ErrLarge},
	} {
		if p, err := place.Read(sample(), c.s); !equal(p, api.Position{}) || err != c.want {
			t.Errorf("Read of %d bytes %q...: %+v, %d, want nothing, %d", len(c.s), c.s[:10], p, err, c.want)
		}
	}
}

// TestP122Cut has all beginnings and all ends of texts.
func TestP122Cut(t *testing.T) {
	for s, c := range written() {
		for i := range s {
			compare(t, c.r, s[:i])
			compare(t, c.r, s[i:])
		}
	}
}

// TestP122EachByte has each byte of a text left out, doubled, exchanged with the next one, and replaced by, and preceded by, all others.
func TestP122EachByte(t *testing.T) {
	seen := map[api.Errno]int{}
	for s, c := range written() {
		for i := range s {
			seen[compare(t, c.r, s[:i]+s[i+1:])]++
			seen[compare(t, c.r, s[:i+1]+s[i:])]++
			if i > 0 {
				seen[compare(t, c.r, s[:i-1]+s[i:i+1]+s[i-1:i]+s[i+1:])]++
			}
			if len(s) > 60 && i%5 != 0 {
				continue // a longer text has more of the same
			}
			for n := range 256 {
				other := string([]byte{byte(n)})
				seen[compare(t, c.r, s[:i]+other+s[i+1:])]++
				seen[compare(t, c.r, s[:i]+other+s[i:])]++
			}
		}
	}
	if seen[api.OK] < 100 || seen[api.ErrSyntax] < 10000 {
		t.Errorf("the errors came up so often: %v", seen)
	}
}

// TestP122Scattered puts texts together from parts of texts of the same game.
func TestP122Scattered(t *testing.T) {
	random := rand.New(rand.NewPCG(5, 122))
	seen := map[api.Errno]int{}
	pool := []string{"-", "", "0", "1", "2", "3", "8", "9", "20", "200", "201", "1000", "1001", "K1", "A2", "Z3", "K1A2", "A2K1", "a1", "3/3/3/3", "12/3/3/3", "KAZ/kaz/1a1/2K", "/", " ", "3", "3/", "1K", "KK", "zz1", "\xff"}
	for range 20000 {
		parts := strings.Split(middleText, " ")
		for range 1 + random.IntN(3) {
			at := random.IntN(len(parts))
			switch random.IntN(6) {
			case 0:
				parts = slices.Insert(parts, at, pool[random.IntN(len(pool))])
			case 1:
				parts[at] += pool[random.IntN(len(pool))]
			case 2:
				other := random.IntN(len(parts))
				parts[at], parts[other] = parts[other], parts[at]
			default:
				parts[at] = pool[random.IntN(len(pool))]
			}
		}
		seen[compare(t, sample(), strings.Join(parts, " "))]++
	}
	if seen[api.OK] < 200 || seen[api.ErrSyntax] < 2000 {
		t.Errorf("the errors came up so often: %v", seen)
	}
}

// TestP122Rows puts rows together from parts, on boards with two types.
func TestP122Rows(t *testing.T) {
	random := rand.New(rand.NewPCG(5, 121))
	seen := map[api.Errno]int{}
	for range 20000 {
		r := board(1+random.IntN(8), 1+random.IntN(2), "AB")
		rows := make([]string, r.Height)
		for i := range rows {
			for width := 0; width < r.Width; {
				n := 1 + random.IntN(min(3, r.Width-width))
				part := []string{"A", "a", "B", "b"}[random.IntN(4)]
				if random.IntN(2) == 0 {
					part = strconv.Itoa(n)
					width += n - 1
				}
				rows[i] += part
				width++
			}
		}
		if random.IntN(10) == 0 {
			rows[0] += "1"
		}
		seen[compare(t, r, strings.Join(rows, "/")+" - - 1 0")]++
	}
	if seen[api.OK] < 2000 || seen[api.ErrSyntax] < 2000 {
		t.Errorf("the errors came up so often: %v", seen)
	}
}

// TestClone has the function that no chapter lists.
func TestClone(t *testing.T) {
	for _, c := range all() {
		if got, err := place.Clone(c.r, c.p); !equal(got, c.p) || err != api.OK {
			t.Errorf("Clone(%+v, %+v): %+v, %d", c.r, c.p, got, err)
		}
	}
}
