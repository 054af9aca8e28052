package rules_test

import (
	"fmt"
	"math"
	"math/rand/v2"
	"slices"
	"strings"
	"testing"

	"gamehall/api"
	"gamehall/rules"
	"gamehall/testkit"
)

// The tests hold package rules against rules that are written out and changed in one or two places, and against slow definitions that note down all that is wrong, or walk from row to row.

// extremes are ints at and beyond all the bounds that occur in the chapter.
var extremes = []int{math.MinInt, math.MinInt + 1, -65, -64, -9, -8, -7, -6, -2, -1, 0, 1, 2, 3, 4, 5, 6, 7, 8, 9, 11, 12, 13, 14, 15, 16, 17, 63, 64, 65, 199, 200, 201, 1 << 32, math.MaxInt - 1, math.MaxInt}

// sample returns rules that have something of everything, with numbers off their bounds.
func sample() api.Rules {
	return api.Rules{
		Name: "SAMPLE", Width: 3, Height: 4,
		Pieces: []api.RulePiece{
			{Letter: 'K', Ways: []api.RuleWay{{DX: 1, DY: 0, Most: 1, Take: api.TakeMay}, {DX: -1, DY: 0, Most: 1, Take: api.TakeMay}, {DX: 0, DY: -1, Most: 1, Take: api.TakeNever}}},
			{Letter: 'P', Hand: 2, Promote: 3, Ways: []api.RuleWay{{DX: 0, DY: 1, Most: 1, Take: api.TakeNever}, {DX: 1, DY: 1, Most: 1, Take: api.TakeMust}}},
			{Letter: 'R', Hand: 1, Ways: []api.RuleWay{{DX: 0, DY: 2, Most: 3, Take: api.TakeMay}}},
		},
		Start: []int{
			5, 1, 0,
			3, 3, 3,
			4, 0, 4,
			6, 2, 6,
		},
		Falls: true, Keeps: true,
		Ends: []api.RuleEnd{
			{Kind: api.EndLine, Count: 3},
			{Kind: api.EndReach, Piece: 1},
			{Kind: api.EndTake, Piece: 2, Count: 2, Loses: true},
		},
		Blocked: api.BlockedWins, Quiet: 50, Repeat: 3,
	}
}

// empty returns rules with one type of pieces and nothing on the board.
func empty(w, h int) api.Rules {
	return api.Rules{Name: "E", Width: w, Height: h, Pieces: []api.RulePiece{{Letter: 'A'}}, Start: make([]int, w*h)}
}

// full returns rules with six types of pieces and cells of all kinds without a pattern, the same for equal arguments.
func full(w, h int, seed uint64) api.Rules {
	r := empty(w, h)
	for _, letter := range []byte("BCDEF") {
		r.Pieces = append(r.Pieces, api.RulePiece{Letter: letter})
	}
	random := rand.New(rand.NewPCG(seed, 1))
	for i := range r.Start {
		r.Start[i] = random.IntN(13)
	}
	return r
}

// equal compares all that rules say; a nil slice is an empty one.
func equal(a, b api.Rules) bool {
	return fmt.Sprintf("%+v", a) == fmt.Sprintf("%+v", b)
}

const (
	capitals = "ABCDEFGHIJKLMNOPQRSTUVWXYZ"
	digits   = "0123456789"
)

// slowName takes away what a name may have and looks at what is left.
func slowName(s string) bool {
	head, tail := s[:min(1, len(s))], s[min(1, len(s)):]
	return head != "" && len(tail) < 8 && strings.Trim(head, capitals) == "" && strings.Trim(tail, capitals+digits) == ""
}

func TestP111Name(t *testing.T) {
	for s, want := range map[string]bool{
		"A":                             true,
		"Z":                             true,
		"A1":                            true,
		"TIC":                           true,
		"Z9":                            true,
		"A0000000":                      true,
		"ABCDEFGH":                      true,
		"Z9876543":                      true,
		"":                              false,
		"ABCDEFGHI":                     false,
		"A00000000":                     false,
		"1":                             false,
		"1A":                            false,
		"0":                             false,
		"a":                             false,
		"t":                             false,
		"Ab":                            false,
		"ABCDEFGh":                      false,
		" A":                            false,
		"A ":                            false,
		"A B":                           false,
		"A\n":                           false,
		"\x00":                          false,
		"A\x00":                         false,
		"A_1":                           false,
		"A-1":                           false,
		"\u00c4":                        false,
		"A\u00c4":                       false,
		"A\u0660":                       false,
		"\u0410":                        false,
		"\uff21":                        false,
		"\xff":                          false,
		"A\xc1":                         false,
		strings.Repeat("A", 9):          false,
		strings.Repeat("A", 256):        false,
		strings.Repeat("A", 256+1):      false,
		strings.Repeat("\u00c4", 4):     false,
		"A" + strings.Repeat("\x80", 7): false,
	} {
		if got := rules.Name(s); got != want {
			t.Errorf("Name(%q): %t, want %t", s, got, want)
		}
	}
}

// TestP111NameAllBytes has each byte in each place of texts of each length.
func TestP111NameAllBytes(t *testing.T) {
	for length := range 12 {
		for place := range length {
			for c := range 256 {
				text := []byte("KQ7Z0A9XYB2"[:length])
				text[place] = byte(c)
				if got, want := rules.Name(string(text)), slowName(string(text)); got != want {
					t.Errorf("Name(%q): %t, want %t", text, got, want)
				}
			}
		}
	}
	for c := range 1 << 16 {
		text := string([]byte{byte(c >> 8), byte(c)})
		if got, want := rules.Name(text), slowName(text); got != want {
			t.Errorf("Name(%q): %t, want %t", text, got, want)
		}
	}
}

// A change makes rules wrong, or keeps them right.
type change struct {
	what string
	do   func(r *api.Rules)
	want api.Errno
}

// wrongs returns one or more changes for each error of Check, in the order of the chapter. Later ones can be done before earlier ones.
func wrongs() []change {
	l := []change{
		{"no name", func(r *api.Rules) { r.Name = "" }, api.ErrName},
		{"a name that is none", func(r *api.Rules) { r.Name = "t" }, api.ErrName},
		{"no columns", func(r *api.Rules) { r.Width = 0 }, api.ErrRange},
		{"no rows", func(r *api.Rules) { r.Height = 0 }, api.ErrRange},
		{"no types", func(r *api.Rules) { r.Pieces = nil }, api.ErrNone},
		{"seven types", func(r *api.Rules) { addTypes(r, 4) }, api.ErrLarge},
	}
	for i := range sample().Pieces {
		l = append(l, wrongsOfType(i)...)
	}
	l = append(l,
		change{"no cells", func(r *api.Rules) { r.Start = nil }, api.ErrForm},
		change{"a cell too many", func(r *api.Rules) { r.Start = append(r.Start, 0) }, api.ErrForm},
		change{"a first cell of no type", func(r *api.Rules) { r.Start[0] = 7 }, api.ErrRange},
		change{"a last cell of no type", func(r *api.Rules) { r.Start[11] = -1 }, api.ErrRange},
		change{"seven conditions", func(r *api.Rules) { addEnds(r, 4) }, api.ErrLarge},
	)
	for i := range sample().Ends {
		l = append(l,
			change{fmt.Sprint("an unknown kind ", i), func(r *api.Rules) { r.Ends[i].Kind = 3 }, api.ErrArg},
			change{fmt.Sprint("a wrong count ", i), func(r *api.Rules) { r.Ends[i].Count = 65 }, api.ErrRange},
			change{fmt.Sprint("a wrong piece ", i), func(r *api.Rules) { r.Ends[i].Piece = 7 }, api.ErrRange},
		)
	}
	return append(l,
		change{"Blocked is unknown", func(r *api.Rules) { r.Blocked = 3 }, api.ErrRange},
		change{"Quiet is too large", func(r *api.Rules) { r.Quiet = 201 }, api.ErrRange},
		change{"Repeat is 1", func(r *api.Rules) { r.Repeat = 1 }, api.ErrRange},
	)
}

func wrongsOfType(i int) []change {
	name := func(s string) string { return fmt.Sprint(s, " of type ", i) }
	l := []change{{name("the letter"), func(r *api.Rules) { r.Pieces[i].Letter = 'k' }, api.ErrName}}
	for j := range i {
		l = append(l, change{name("the same letter again"), func(r *api.Rules) { r.Pieces[i].Letter = r.Pieces[j].Letter }, api.ErrTwice})
	}
	return append(l,
		change{name("Hand"), func(r *api.Rules) { r.Pieces[i].Hand = 65 }, api.ErrRange},
		change{name("Promote"), func(r *api.Rules) { r.Pieces[i].Promote = 8 }, api.ErrRange},
		change{name("17 ways"), func(r *api.Rules) { addWays(r, i, 17) }, api.ErrLarge},
		change{name("the first way"), func(r *api.Rules) { r.Pieces[i].Ways[0].Most = 0 }, api.ErrRange},
		change{name("the last way"), func(r *api.Rules) { r.Pieces[i].Ways[len(r.Pieces[i].Ways)-1].DX = 8 }, api.ErrRange},
	)
}

// addTypes adds types without ways, with letters that the sample does not have.
func addTypes(r *api.Rules, n int) {
	for i := range n {
		r.Pieces = append(r.Pieces, api.RulePiece{Letter: capitals[i]})
	}
}

// addEnds adds conditions without a fault.
func addEnds(r *api.Rules, n int) {
	r.Ends = append(r.Ends, slices.Repeat([]api.RuleEnd{{Kind: api.EndLine, Count: 1}}, n)...)
}

// addWays adds ways behind those of a type until there are n.
func addWays(r *api.Rules, piece, n int) {
	for len(r.Pieces[piece].Ways) < n {
		r.Pieces[piece].Ways = append(r.Pieces[piece].Ways, api.RuleWay{DX: 1, Most: 1})
	}
}

// try checks the sample after a change.
func (c change) try(t *testing.T) {
	t.Helper()
	r := sample()
	c.do(&r)
	if got := rules.Check(r); got != c.want {
		t.Errorf("%s: Check: %d, want %d", c.what, got, c.want)
	}
}

func TestP112CheckWrong(t *testing.T) {
	for _, c := range wrongs() {
		c.try(t)
	}
}

// TestP112CheckOrder has all pairs of errors: the one that the chapter mentions first is the result.
func TestP112CheckOrder(t *testing.T) {
	l := wrongs()
	for i, first := range l {
		for _, later := range l[i+1:] {
			// The same letter as one that is no letter any more is no letter either.
			if first.want == api.ErrTwice && strings.HasPrefix(later.what, "the letter") {
				continue
			}
			both := change{first.what + ", and " + later.what, func(r *api.Rules) { later.do(r); first.do(r) }, first.want}
			both.try(t)
		}
	}
}

// TestP112CheckBounds has the numbers at their bounds and beyond, one at a time.
func TestP112CheckBounds(t *testing.T) {
	within := func(least, most int) func(int) bool {
		return func(n int) bool { return least <= n && n <= most }
	}
	for _, c := range []struct {
		what string
		set  func(r *api.Rules, n int)
		good func(n int) bool
		want api.Errno
	}{
		{"Hand", func(r *api.Rules, n int) { r.Pieces[1].Hand = n }, within(0, 64), api.ErrRange},
		{"Promote", func(r *api.Rules, n int) { r.Pieces[1].Promote = n }, within(0, 3), api.ErrRange},
		{"Promote of the only type", func(r *api.Rules, n int) { *r = empty(2, 2); r.Pieces[0].Promote = n }, within(0, 1), api.ErrRange},
		{"Promote of six types", func(r *api.Rules, n int) { *r = full(2, 2, 1); r.Pieces[0].Promote = n }, within(0, 6), api.ErrRange},
		{"DX", func(r *api.Rules, n int) { r.Pieces[2].Ways[0].DX = n }, within(-7, 7), api.ErrRange},
		{"DY", func(r *api.Rules, n int) { r.Pieces[0].Ways[1].DY = n }, within(-7, 7), api.ErrRange},
		{"DX without DY", func(r *api.Rules, n int) { r.Pieces[0].Ways[0] = api.RuleWay{DX: n, Most: 1} }, func(n int) bool { return n != 0 && -7 <= n && n <= 7 }, api.ErrRange},
		{"DY without DX", func(r *api.Rules, n int) { r.Pieces[0].Ways[0] = api.RuleWay{DY: n, Most: 1} }, func(n int) bool { return n != 0 && -7 <= n && n <= 7 }, api.ErrRange},
		{"Most", func(r *api.Rules, n int) { r.Pieces[1].Ways[1].Most = n }, within(1, 7), api.ErrRange},
		{"Take", func(r *api.Rules, n int) { r.Pieces[1].Ways[1].Take = n }, within(0, 2), api.ErrRange},
		{"a cell", func(r *api.Rules, n int) { r.Start[5] = n }, within(0, 6), api.ErrRange},
		{"a cell of one type", func(r *api.Rules, n int) { *r = empty(2, 2); r.Start[3] = n }, within(0, 2), api.ErrRange},
		{"a cell of six types", func(r *api.Rules, n int) { *r = full(2, 2, 1); r.Start[0] = n }, within(0, 12), api.ErrRange},
		{"Kind", func(r *api.Rules, n int) { r.Ends[0] = api.RuleEnd{Kind: n, Count: 3} }, func(n int) bool { return n == 0 || n == 2 }, api.ErrArg},
		{"Kind without Count", func(r *api.Rules, n int) { r.Ends[0] = api.RuleEnd{Kind: n, Piece: 2} }, func(n int) bool { return n == 1 }, api.ErrArg},
		{"Count of EndLine", func(r *api.Rules, n int) { r.Ends[0].Count = n }, within(1, 64), api.ErrRange},
		{"Count of EndReach", func(r *api.Rules, n int) { r.Ends[1].Count = n }, within(0, 0), api.ErrRange},
		{"Count of EndTake", func(r *api.Rules, n int) { r.Ends[2].Count = n }, within(1, 64), api.ErrRange},
		{"Piece of EndLine", func(r *api.Rules, n int) { r.Ends[0].Piece = n }, within(0, 0), api.ErrRange},
		{"Piece of EndReach", func(r *api.Rules, n int) { r.Ends[1].Piece = n }, within(0, 2), api.ErrRange},
		{"Piece of EndTake", func(r *api.Rules, n int) { r.Ends[2].Piece = n }, within(0, 2), api.ErrRange},
		{"Blocked", func(r *api.Rules, n int) { r.Blocked = n }, within(0, 2), api.ErrRange},
		{"Quiet", func(r *api.Rules, n int) { r.Quiet = n }, within(0, 200), api.ErrRange},
		{"Repeat", func(r *api.Rules, n int) { r.Repeat = n }, func(n int) bool { return n == 0 || 2 <= n && n <= 5 }, api.ErrRange},
	} {
		for _, n := range extremes {
			r, want := sample(), api.OK
			c.set(&r, n)
			if !c.good(n) {
				want = c.want
			}
			// Of the two tables of Kind each leaves a known kind with the other one's fields.
			if strings.HasPrefix(c.what, "Kind") && want != api.OK && 0 <= n && n <= 2 {
				want = api.ErrRange
			}
			if got := rules.Check(r); got != want {
				t.Errorf("%s is %d: Check: %d, want %d", c.what, n, got, want)
			}
		}
	}
}

func TestP112CheckSizes(t *testing.T) {
	for _, w := range extremes {
		for _, h := range extremes {
			want, cells := api.ErrRange, 12
			if 1 <= w && w <= 8 && 1 <= h && h <= 8 {
				want, cells = api.OK, w*h
			}
			r := empty(1, 1)
			r.Width, r.Height, r.Start = w, h, make([]int, cells)
			if got := rules.Check(r); got != want {
				t.Errorf("a board of %d by %d: Check: %d, want %d", w, h, got, want)
			}
		}
	}
	for _, b := range testkit.Boards() {
		for _, n := range []int{0, b[0], b[1], b[0]*b[1] - 1, b[0]*b[1] + 1, 64, 65, 1 << 12} {
			r, want := empty(b[0], b[1]), api.OK
			r.Start = make([]int, n)
			if n != b[0]*b[1] {
				want = api.ErrForm
			}
			if got := rules.Check(r); got != want {
				t.Errorf("%d cells of a board of %d by %d: Check: %d, want %d", n, b[0], b[1], got, want)
			}
		}
	}
}

func TestP112CheckLetters(t *testing.T) {
	for c := range 256 {
		letter := byte(c)
		want := api.ErrName
		switch {
		case letter == 'K' || letter == 'P':
			want = api.ErrTwice
		case strings.IndexByte(capitals, letter) >= 0:
			want = api.OK
		}
		change{fmt.Sprintf("the last letter is %q", letter), func(r *api.Rules) { r.Pieces[2].Letter = letter }, want}.try(t)
	}
}

func TestP112CheckCounts(t *testing.T) {
	end := func(n int) func(r *api.Rules) {
		return func(r *api.Rules) { r.Ends = nil; addEnds(r, n) }
	}
	for _, c := range []change{
		{"the sample", func(*api.Rules) {}, api.OK},
		{"one type", func(r *api.Rules) { *r = empty(8, 8) }, api.OK},
		{"six types", func(r *api.Rules) { addTypes(r, 3) }, api.OK},
		{"seven types", func(r *api.Rules) { addTypes(r, 4) }, api.ErrLarge},
		{"all letters", func(r *api.Rules) { r.Pieces = nil; addTypes(r, 26) }, api.ErrLarge},
		{"types without a way", func(r *api.Rules) { r.Pieces[0].Ways, r.Pieces[1].Ways = nil, []api.RuleWay{} }, api.OK},
		{"16 ways of the first type", func(r *api.Rules) { addWays(r, 0, 16) }, api.OK},
		{"17 ways of the first type", func(r *api.Rules) { addWays(r, 0, 17) }, api.ErrLarge},
		{"16 ways of each type", func(r *api.Rules) { addWays(r, 0, 16); addWays(r, 1, 16); addWays(r, 2, 16) }, api.OK},
		{"17 ways of the last type", func(r *api.Rules) { addWays(r, 2, 17) }, api.ErrLarge},
		{"equal ways", func(r *api.Rules) { r.Pieces[0].Ways[1] = r.Pieces[0].Ways[0] }, api.OK},
		{"no conditions", end(0), api.OK},
		{"one condition", end(1), api.OK},
		{"six conditions", end(6), api.OK},
		{"seven conditions", end(7), api.ErrLarge},
		{"a name of eight bytes", func(r *api.Rules) { r.Name = "ABCDEFGH" }, api.OK},
		{"a name of nine bytes", func(r *api.Rules) { r.Name = "ABCDEFGHI" }, api.ErrName},
		{"neither Falls nor Keeps", func(r *api.Rules) { r.Falls, r.Keeps = false, false }, api.OK},
		{"nothing at all", func(r *api.Rules) { *r = api.Rules{} }, api.ErrName},
		{"only a name", func(r *api.Rules) { *r = api.Rules{Name: "A"} }, api.ErrRange},
		{"a name and a size", func(r *api.Rules) { *r = api.Rules{Name: "A", Width: 1, Height: 1} }, api.ErrNone},
	} {
		c.try(t)
	}
}

// slowCheck notes down all that is wrong, in the order of the chapter, and returns what it noted first.
func slowCheck(r api.Rules) api.Errno {
	var noted []api.Errno
	note := func(err api.Errno, wrong bool) {
		if wrong {
			noted = append(noted, err)
		}
	}
	outside := func(n, least, most int) bool { return n < least || n > most }
	types := len(r.Pieces)
	note(api.ErrName, !slowName(r.Name))
	note(api.ErrRange, outside(r.Width, 1, 8) || outside(r.Height, 1, 8))
	note(api.ErrNone, types == 0)
	note(api.ErrLarge, types > 6)
	for i, p := range r.Pieces {
		note(api.ErrName, strings.IndexByte(capitals, p.Letter) < 0)
		for _, q := range r.Pieces[:i] {
			note(api.ErrTwice, q.Letter == p.Letter)
		}
		note(api.ErrRange, outside(p.Hand, 0, 64) || outside(p.Promote, 0, types))
		note(api.ErrLarge, len(p.Ways) > 16)
		for _, w := range p.Ways {
			note(api.ErrRange, outside(w.DX, -7, 7) || outside(w.DY, -7, 7) || w.DX == 0 && w.DY == 0)
			note(api.ErrRange, outside(w.Most, 1, 7))
			note(api.ErrRange, w.Take != api.TakeNever && w.Take != api.TakeMay && w.Take != api.TakeMust)
		}
	}
	note(api.ErrForm, len(r.Start) != r.Width*r.Height)
	for _, cell := range r.Start {
		note(api.ErrRange, outside(cell, 0, 2*types))
	}
	note(api.ErrLarge, len(r.Ends) > 6)
	for _, e := range r.Ends {
		line, reach, take := e.Kind == api.EndLine, e.Kind == api.EndReach, e.Kind == api.EndTake
		note(api.ErrArg, !line && !reach && !take)
		note(api.ErrRange, (line || take) && outside(e.Count, 1, 64))
		note(api.ErrRange, (reach || take) && outside(e.Piece, 0, types-1))
		note(api.ErrRange, line && e.Piece != 0)
		note(api.ErrRange, reach && e.Count != 0)
	}
	note(api.ErrRange, r.Blocked != api.BlockedLoses && r.Blocked != api.BlockedWins && r.Blocked != api.BlockedDraws)
	note(api.ErrRange, outside(r.Quiet, 0, 200))
	note(api.ErrRange, r.Repeat == 1 || outside(r.Repeat, 0, 5))
	return append(noted, api.OK)[0]
}

// TestP112CheckScattered changes up to three numbers, and sometimes the lists, without a pattern.
func TestP112CheckScattered(t *testing.T) {
	random := rand.New(rand.NewPCG(3, 112))
	seen := map[api.Errno]int{}
	for range 60000 {
		r := sample()
		for range random.IntN(4) {
			l := testkit.RuleNumbers(&r)
			*l[random.IntN(len(l))] = extremes[random.IntN(len(extremes))]
		}
		if l := wrongs(); random.IntN(8) == 0 {
			l[random.IntN(len(l))].do(&r)
		}
		want := slowCheck(r)
		seen[want]++
		if got := rules.Check(r); got != want {
			t.Fatalf("Check(%+v): %d, want %d", r, got, want)
		}
	}
	for _, err := range []api.Errno{api.OK, api.ErrName, api.ErrRange, api.ErrNone, api.ErrLarge, api.ErrTwice, api.ErrForm, api.ErrArg} {
		if seen[err] < 20 {
			t.Errorf("the error %d came up %d times only", err, seen[err])
		}
	}
}

// TestP112OthersReturnItFirst gives the other functions wrong rules together with all other errors that they have.
func TestP112OthersReturnItFirst(t *testing.T) {
	for _, c := range wrongs() {
		r := sample()
		c.do(&r)
		for _, n := range []int{-1, 0, 1, 2, 11, 12} {
			if last, err := rules.Last(r, n, n); last || err != c.want {
				t.Errorf("%s: Last(%d, %d): %t, %d, want false, %d", c.what, n, n, last, err, c.want)
			}
		}
		if m, err := rules.Mirror(r); !equal(m, api.Rules{}) || err != c.want {
			t.Errorf("%s: Mirror: %+v, %d, want nothing, %d", c.what, m, err, c.want)
		}
		if m, err := rules.Clone(r); !equal(m, api.Rules{}) || err != c.want {
			t.Errorf("%s: Clone: %+v, %d, want nothing, %d", c.what, m, err, c.want)
		}
	}
}

func TestP113LastWritten(t *testing.T) {
	for _, c := range []struct {
		w, h, player, square int
		want                 bool
	}{
		{3, 3, api.First, 7, true},
		{3, 3, api.First, 6, true},
		{3, 3, api.First, 8, true},
		{3, 3, api.First, 5, false},
		{3, 3, api.First, 0, false},
		{3, 3, api.Second, 0, true},
		{3, 3, api.Second, 2, true},
		{3, 3, api.Second, 3, false},
		{3, 3, api.Second, 7, false},
		{2, 4, api.First, 6, true},
		{2, 4, api.First, 5, false},
		{4, 2, api.First, 4, true},
		{4, 2, api.First, 3, false},
		{4, 2, api.Second, 3, true},
		{4, 2, api.Second, 4, false},
		{1, 1, api.First, 0, true},
		{1, 1, api.Second, 0, true},
		{8, 1, api.First, 0, true},
		{8, 1, api.Second, 7, true},
		{1, 8, api.First, 7, true},
		{1, 8, api.First, 0, false},
		{1, 8, api.Second, 7, false},
	} {
		got, err := rules.Last(empty(c.w, c.h), c.player, c.square)
		if got != c.want || err != api.OK {
			t.Errorf("a board of %d by %d: Last(%d, %d): %t, %d, want %t", c.w, c.h, c.player, c.square, got, err, c.want)
		}
	}
}

// TestP113Last walks up and down in the column of a square: it is on a last row if there is no square beyond it.
func TestP113Last(t *testing.T) {
	for _, b := range testkit.Boards() {
		w, h := b[0], b[1]
		for _, r := range []api.Rules{empty(w, h), full(w, h, 5)} {
			for square := range w * h {
				for player, beyond := range []int{square + w, square - w} {
					want := beyond < 0 || beyond >= w*h
					if got, err := rules.Last(r, player, square); got != want || err != api.OK {
						t.Errorf("a board of %d by %d: Last(%d, %d): %t, %d, want %t", w, h, player, square, got, err, want)
					}
				}
			}
		}
	}
}

func TestP113LastErrors(t *testing.T) {
	for _, b := range testkit.Boards() {
		w, h := b[0], b[1]
		r := empty(w, h)
		for _, player := range extremes {
			for _, square := range append([]int{w*h - 1, w * h, w*h + 1}, extremes...) {
				want := api.OK
				switch {
				case player != 0 && player != 1:
					want = api.ErrArg
				case square < 0 || square >= w*h:
					want = api.ErrRange
				}
				if got, err := rules.Last(r, player, square); err != want || err != api.OK && got {
					t.Errorf("a board of %d by %d: Last(%d, %d): %t, %d, want the error %d", w, h, player, square, got, err, want)
				}
			}
		}
	}
}

func TestP114MirrorWritten(t *testing.T) {
	for _, c := range []struct {
		what        string
		w, h        int
		start, want []int
	}{
		{"the columns stay", 3, 3, []int{1, 0, 0, 0, 0, 0, 0, 0, 2}, []int{0, 0, 1, 0, 0, 0, 2, 0, 0}},
		{"nothing on the board", 2, 2, []int{0, 0, 0, 0}, []int{0, 0, 0, 0}},
		{"all pieces of First", 2, 3, []int{1, 3, 5, 7, 9, 11}, []int{10, 12, 6, 8, 2, 4}},
		{"all pieces of Second", 2, 3, []int{2, 4, 6, 8, 10, 12}, []int{9, 11, 5, 7, 1, 3}},
		{"more columns than rows", 3, 2, []int{1, 2, 3, 4, 0, 12}, []int{3, 0, 11, 2, 1, 4}},
		{"only one row", 4, 1, []int{1, 2, 0, 11}, []int{2, 1, 0, 12}},
		{"only one column", 1, 4, []int{1, 2, 0, 11}, []int{12, 0, 1, 2}},
		{"one square", 1, 1, []int{8}, []int{7}},
		{"the row in the middle", 1, 3, []int{0, 3, 0}, []int{0, 4, 0}},
		{"a beginning that is its own mirror", 2, 4, []int{1, 3, 5, 5, 6, 6, 2, 4}, []int{1, 3, 5, 5, 6, 6, 2, 4}},
	} {
		r := full(c.w, c.h, 0)
		r.Start = slices.Clone(c.start)
		m, err := rules.Mirror(r)
		if !slices.Equal(m.Start, c.want) || err != api.OK {
			t.Errorf("%s: Mirror: %v, %d, want %v", c.what, m.Start, err, c.want)
		}
	}
}

// slowMirror takes the rows from the top, with each piece found by its type and player.
func slowMirror(r api.Rules) []int {
	var start []int
	for len(start) < len(r.Start) {
		end := len(r.Start) - len(start)
		for _, cell := range r.Start[end-r.Width : end] {
			other := 0
			for kind := range r.Pieces {
				for player := range 2 {
					if cell == 2*kind+player+1 {
						other = 2*kind + (1 - player) + 1
					}
				}
			}
			start = append(start, other)
		}
	}
	return start
}

func TestP114Mirror(t *testing.T) {
	for _, b := range testkit.Boards() {
		for seed := range uint64(6) {
			r := full(b[0], b[1], seed)
			m, err := rules.Mirror(r)
			if want := slowMirror(r); !slices.Equal(m.Start, want) || err != api.OK {
				t.Errorf("a board of %d by %d with %v: Mirror: %v, %d, want %v", b[0], b[1], r.Start, m.Start, err, want)
			}
			if got := rules.Check(m); got != api.OK {
				t.Errorf("a board of %d by %d with %v: the mirror is wrong: %d", b[0], b[1], r.Start, got)
			}
			if back, err := rules.Mirror(m); !equal(back, r) || err != api.OK {
				t.Errorf("a board of %d by %d with %v: the mirror of the mirror is %v, %d", b[0], b[1], r.Start, back.Start, err)
			}
		}
	}
}

// TestP114OnlyStartChanges includes rules that do not treat both players alike.
func TestP114OnlyStartChanges(t *testing.T) {
	bare := empty(3, 2)
	bare.Pieces[0].Ways, bare.Ends = nil, nil
	hollow := empty(3, 2)
	hollow.Pieces[0].Ways, hollow.Ends = []api.RuleWay{}, []api.RuleEnd{}
	for _, falls := range []bool{false, true} {
		for _, r := range []api.Rules{sample(), bare, hollow, full(3, 3, 2)} {
			r.Falls = falls
			m, err := rules.Mirror(r)
			if want := slowMirror(r); !slices.Equal(m.Start, want) || err != api.OK {
				t.Errorf("Mirror(%+v): %v, %d, want %v", r, m.Start, err, want)
			}
			m.Start = r.Start
			if !equal(m, r) {
				t.Errorf("Mirror(%+v) has %+v", r, m)
			}
		}
	}
}

// TestClone has the function that no chapter lists.
func TestClone(t *testing.T) {
	l := []api.Rules{sample(), empty(8, 8), full(3, 3, 2)}
	random := rand.New(rand.NewPCG(3, 2))
	for range 300 {
		l = append(l, testkit.AnyRules(random.IntN))
	}
	for _, r := range l {
		if got, err := rules.Clone(r); !equal(got, r) || err != api.OK {
			t.Errorf("Clone(%+v): %+v, %d", r, got, err)
		}
	}
}
