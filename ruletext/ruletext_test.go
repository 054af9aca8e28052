package ruletext_test

import (
	"fmt"
	"math/big"
	"math/rand/v2"
	"regexp"
	"slices"
	"strings"
	"testing"

	"gamehall/api"
	"gamehall/rules"
	"gamehall/ruletext"
	"gamehall/testkit"
)

// The tests hold package ruletext against texts that are written out and changed in one or two places, and against slow definitions: a text that is put together from the table of the chapter, and a parser made of regular expressions.

// sample returns rules that have something of everything, with a type that changes into a later one, one that changes into itself, and one that changes into an earlier one.
func sample() api.Rules {
	return api.Rules{
		Name: "SAMPLE2", Width: 3, Height: 4,
		Pieces: []api.RulePiece{
			{Letter: 'K', Ways: []api.RuleWay{{DX: 1, DY: 0, Most: 1, Take: api.TakeMay}, {DX: -7, DY: 7, Most: 7, Take: api.TakeNever}}},
			{Letter: 'P', Hand: 2, Promote: 3, Ways: []api.RuleWay{{DX: 0, DY: -1, Most: 1, Take: api.TakeMust}}},
			{Letter: 'A', Hand: 64, Promote: 3},
			{Letter: 'Z', Hand: 10, Promote: 1, Ways: []api.RuleWay{{DX: 3, DY: 4, Most: 2, Take: api.TakeMay}}},
		},
		Start: []int{
			5, 1, 0,
			3, 3, 7,
			4, 0, 4,
			6, 2, 8,
		},
		Falls: true, Keeps: true,
		Ends: []api.RuleEnd{
			{Kind: api.EndLine, Count: 3},
			{Kind: api.EndReach, Piece: 1, Loses: true},
			{Kind: api.EndTake, Piece: 3, Count: 64},
			{Kind: api.EndLine, Count: 10, Loses: true},
			{Kind: api.EndReach, Piece: 2},
			{Kind: api.EndTake, Piece: 0, Count: 1, Loses: true},
		},
		Blocked: api.BlockedWins, Quiet: 200, Repeat: 5,
	}
}

const sampleText = `game SAMPLE2 3 4
piece K 0 -
way 1 0 1 may
way -7 7 7 never
piece P 2 A
way 0 -1 1 must
piece A 64 A
piece Z 10 K
way 3 4 2 may
row akz
row p.p
row PPZ
row AK.
falls
keeps
end line 3 wins
end reach P loses
end take Z 64 wins
end line 10 loses
end reach A wins
end take K 1 loses
blocked wins
quiet 200
repeat 5
`

// least returns rules with no more than rules must have.
func least(w, h int) api.Rules {
	return api.Rules{Name: "L", Width: w, Height: h, Pieces: []api.RulePiece{{Letter: 'A'}}, Start: make([]int, w*h)}
}

const leastText = `game L 2 1
piece A 0 -
row ..
blocked loses
quiet 0
repeat 0
`

// most returns rules with as much of everything as there can be.
func most() api.Rules {
	r := api.Rules{Name: "ABCDEFGH", Width: 8, Height: 8, Falls: true, Keeps: true, Blocked: api.BlockedDraws, Quiet: 200, Repeat: 5}
	for i := range 6 {
		r.Pieces = append(r.Pieces, api.RulePiece{Letter: "ZYXWVU"[i], Hand: 64, Promote: 6 - i, Ways: slices.Repeat([]api.RuleWay{{DX: -7, DY: -7, Most: 7, Take: api.TakeNever}}, 16)})
		r.Ends = append(r.Ends, api.RuleEnd{Kind: api.EndTake, Piece: i, Count: 64, Loses: true})
	}
	for i := range 64 {
		r.Start = append(r.Start, i%13)
	}
	return r
}

// scattered returns rules without a pattern, which are right, the same for equal seeds.
func scattered(seed uint64) api.Rules {
	return testkit.AnyRules(rand.New(rand.NewPCG(seed, 4)).IntN)
}

// equal compares all that rules say; a nil slice is an empty one.
func equal(a, b api.Rules) bool {
	return fmt.Sprintf("%+v", a) == fmt.Sprintf("%+v", b)
}

// slowText puts the text of rules together from the table of the chapter.
func slowText(r api.Rules) string {
	letters := ""
	cells := "."
	for _, p := range r.Pieces {
		letters += string(rune(p.Letter))
		cells += string(rune(p.Letter)) + strings.ToLower(string(rune(p.Letter)))
	}
	s := fmt.Sprintf("game %s %d %d\n", r.Name, r.Width, r.Height)
	for _, p := range r.Pieces {
		s += fmt.Sprintf("piece %c %d %c\n", p.Letter, p.Hand, ("-" + letters)[p.Promote])
		for _, w := range p.Ways {
			s += fmt.Sprintf("way %d %d %d %s\n", w.DX, w.DY, w.Most, map[int]string{0: "never", 1: "may", 2: "must"}[w.Take])
		}
	}
	rows := ""
	for y := range r.Height {
		row := "row "
		for x := range r.Width {
			row += string(cells[r.Start[y*r.Width+x]])
		}
		rows = row + "\n" + rows
	}
	s += rows
	s += map[bool]string{true: "falls\n"}[r.Falls] + map[bool]string{true: "keeps\n"}[r.Keeps]
	for _, e := range r.Ends {
		how := map[bool]string{false: "wins", true: "loses"}[e.Loses]
		s += []string{
			fmt.Sprintf("end line %d %s\n", e.Count, how),
			fmt.Sprintf("end reach %c %s\n", letters[e.Piece], how),
			fmt.Sprintf("end take %c %d %s\n", letters[e.Piece], e.Count, how),
		}[e.Kind]
	}
	return s + fmt.Sprintf("blocked %s\nquiet %d\nrepeat %d\n", map[int]string{0: "loses", 1: "wins", 2: "draws"}[r.Blocked], r.Quiet, r.Repeat)
}

func TestP115P116PrintWritten(t *testing.T) {
	king := least(1, 2)
	king.Pieces[0] = api.RulePiece{Letter: 'K', Hand: 1, Promote: 1, Ways: []api.RuleWay{{DX: -1, DY: 0, Most: 1, Take: api.TakeMust}}}
	king.Start, king.Keeps, king.Blocked, king.Quiet, king.Repeat = []int{1, 2}, true, api.BlockedDraws, 7, 2
	falls := least(1, 1)
	falls.Name, falls.Falls, falls.Ends = "F00", true, []api.RuleEnd{{Kind: api.EndLine, Count: 1, Loses: true}}
	for want, r := range map[string]api.Rules{
		sampleText: sample(),
		leastText:  least(2, 1),
		"game L 1 2\npiece K 1 K\nway -1 0 1 must\nrow k\nrow K\nkeeps\nblocked draws\nquiet 7\nrepeat 2\n": king,
		"game F00 1 1\npiece A 0 -\nrow .\nfalls\nend line 1 loses\nblocked loses\nquiet 0\nrepeat 0\n":     falls,
	} {
		if got, err := ruletext.Print(r); got != want || err != api.OK {
			t.Errorf("Print: %q, %d, want %q", got, err, want)
		}
		if got, err := ruletext.Parse(want); !equal(got, r) || err != api.OK {
			t.Errorf("Parse(%q): %+v, %d, want %+v", want, got, err, r)
		}
	}
}

// TestP116FirstLine has the example of the chapter.
func TestP116FirstLine(t *testing.T) {
	r := least(3, 3)
	r.Name = "TIC"
	s, err := ruletext.Print(r)
	if line, _, _ := strings.Cut(s, "\n"); line != "game TIC 3 3" || err != api.OK {
		t.Errorf("the first line is %q, %d", line, err)
	}
}

// all returns rules of all kinds that are right.
func all() []api.Rules {
	l := []api.Rules{sample(), most()}
	for w := 1; w <= 8; w++ {
		for h := 1; h <= 8; h++ {
			l = append(l, least(w, h))
		}
	}
	for seed := range uint64(400) {
		l = append(l, scattered(seed))
	}
	return l
}

func TestP116Print(t *testing.T) {
	for _, r := range all() {
		want := slowText(r)
		if got, err := ruletext.Print(r); got != want || err != api.OK {
			t.Errorf("Print(%+v): %q, %d, want %q", r, got, err, want)
		}
		if len(want) > api.MaxText {
			t.Errorf("the text of %+v has %d bytes", r, len(want))
		}
	}
}

// TestP117ParseReadsWhatIsPrinted has all that is printed, and no other rules with the same text.
func TestP117ParseReadsWhatIsPrinted(t *testing.T) {
	for _, r := range all() {
		s, _ := ruletext.Print(r)
		if got, err := ruletext.Parse(s); !equal(got, r) || err != api.OK {
			t.Errorf("Parse(%q): %+v, %d, want %+v", s, got, err, r)
		}
	}
}

// TestP115NilAndEmpty has slices that are empty instead of nil.
func TestP115NilAndEmpty(t *testing.T) {
	r := least(2, 1)
	r.Pieces[0].Ways, r.Ends = []api.RuleWay{}, []api.RuleEnd{}
	if got, err := ruletext.Print(r); got != leastText || err != api.OK {
		t.Errorf("Print: %q, %d, want %q", got, err, leastText)
	}
}

// wrongRules returns rules with the errors of rules.Check.
func wrongRules() map[string]api.Rules {
	l := map[string]api.Rules{"nothing": {}}
	add := func(what string, change func(r *api.Rules)) {
		r := sample()
		change(&r)
		l[what] = r
	}
	add("no name", func(r *api.Rules) { r.Name = "" })
	add("a small name", func(r *api.Rules) { r.Name = "tic" })
	add("no columns", func(r *api.Rules) { r.Width = 0 })
	add("nine columns", func(r *api.Rules) { r.Width = 9 })
	add("less than no columns", func(r *api.Rules) { r.Width, r.Height = -3, -4 })
	add("no rows", func(r *api.Rules) { r.Height = 0 })
	add("nine rows", func(r *api.Rules) { r.Height = 9 })
	add("no types", func(r *api.Rules) { r.Pieces = nil })
	add("seven types", func(r *api.Rules) { r.Pieces = slices.Repeat(r.Pieces, 2)[:7] })
	add("a small letter", func(r *api.Rules) { r.Pieces[1].Letter = 'p' })
	add("the same letter again", func(r *api.Rules) { r.Pieces[1].Letter = 'K' })
	add("Hand", func(r *api.Rules) { r.Pieces[0].Hand = 65 })
	add("Promote", func(r *api.Rules) { r.Pieces[0].Promote = 5 })
	add("Promote below 0", func(r *api.Rules) { r.Pieces[0].Promote = -1 })
	add("17 ways", func(r *api.Rules) { r.Pieces[0].Ways = slices.Repeat(r.Pieces[0].Ways[:1], 17) })
	add("Take", func(r *api.Rules) { r.Pieces[0].Ways[0].Take = 3 })
	add("Take below 0", func(r *api.Rules) { r.Pieces[0].Ways[0].Take = -1 })
	add("no cells", func(r *api.Rules) { r.Start = nil })
	add("a cell too many", func(r *api.Rules) { r.Start = append(r.Start, 0) })
	add("a cell of no type", func(r *api.Rules) { r.Start[4] = 9 })
	add("a cell below 0", func(r *api.Rules) { r.Start[4] = -1 })
	add("seven conditions", func(r *api.Rules) { r.Ends = append(r.Ends, r.Ends[0]) })
	add("Kind", func(r *api.Rules) { r.Ends[2].Kind = 3 })
	add("Count", func(r *api.Rules) { r.Ends[2].Count = 0 })
	add("Piece", func(r *api.Rules) { r.Ends[2].Piece = 4 })
	add("Piece of a line", func(r *api.Rules) { r.Ends[0].Piece = 1 })
	add("Count of the last row", func(r *api.Rules) { r.Ends[1].Count = 1 })
	add("Blocked", func(r *api.Rules) { r.Blocked = 3 })
	add("Blocked below 0", func(r *api.Rules) { r.Blocked = -1 })
	add("Quiet", func(r *api.Rules) { r.Quiet = 201 })
	add("Repeat", func(r *api.Rules) { r.Repeat = 1 })
	return l
}

func TestP116PrintErrors(t *testing.T) {
	for what, r := range wrongRules() {
		want := rules.Check(r)
		if want == api.OK {
			t.Errorf("%s: the rules are right", what)
		}
		if got, err := ruletext.Print(r); got != "" || err != want {
			t.Errorf("%s: Print: %q, %d, want nothing, %d", what, got, err, want)
		}
	}
}

// A swap puts something else in the place of the only occurrence of a part of the sample's text.
type swap struct {
	from, to string
	want     api.Errno
}

func (c swap) in(t *testing.T, s string) string {
	t.Helper()
	if strings.Count(s, c.from) != 1 {
		t.Fatalf("%q occurs %d times in %q", c.from, strings.Count(s, c.from), s)
	}
	return strings.Replace(s, c.from, c.to, 1)
}

// syntaxErrors returns changes of the sample's text after which it does not have the form.
func syntaxErrors() []swap {
	var l []swap
	for _, pair := range [][2]string{
		{"game SAMPLE2 3 4\n", ""}, {"game SAMPLE2", "Game SAMPLE2"}, {"game SAMPLE2", "games SAMPLE2"}, {"game SAMPLE2 3 4", "game"},
		{"SAMPLE2 3 4", "SAMPLE2 3"}, {"SAMPLE2 3 4", "SAMPLE2 3 4 5"}, {"SAMPLE2 3 4", "SAMPLE2 3 4 "},
		{"game SAMPLE2", "\ngame SAMPLE2"}, {"game SAMPLE2", " game SAMPLE2"}, {"game SAMPLE2", "gameSAMPLE2"},
		{"3 4\npiece K", "3 5\npiece K"}, {"3 4\npiece K", "3 3\npiece K"}, {"3 4\npiece K", "2 4\npiece K"}, {"3 4\npiece K", "4 4\npiece K"},
		{"3 4\npiece K", "3 0\npiece K"}, {"3 4\npiece K", "0 4\npiece K"}, {"3 4\npiece K", "9 4\npiece K"}, {"3 4\npiece K", "3 9\npiece K"},
		{"3 4\npiece K", "-3 4\npiece K"}, {"3 4\npiece K", "3 -4\npiece K"}, {"3 4\npiece K", "03 4\npiece K"}, {"3 4\npiece K", "3 04\npiece K"},
		{"3 4\npiece K", "+3 4\npiece K"}, {"3 4\npiece K", "3 9223372036854775807\npiece K"}, {"3 4\npiece K", "4611686018427387904 4\npiece K"},
		{"3 4\npiece K", "3 x\npiece K"}, {"3 4\npiece K", "3 4 \npiece K"}, {"3 4\npiece K", "3 4\r\npiece K"}, {"3 4\npiece K", "3 4\n\npiece K"},
		{"3 4\npiece K", "3\t4\npiece K"}, {"3 4\npiece K", "3  4\npiece K"},
		{"3 4\npiece K", "3 4\nway 1 1 1 may\npiece K"}, {"3 4\npiece K", "3 4\nkeeps\npiece K"}, {"3 4\npiece K", "3 4\npiece K 1 0\npiece K"},
		{"piece K 0 -", "piece  0 -"}, {"piece K 0 -", "piece KK 0 -"}, {"piece K 0 -", "piece \u00c4 0 -"}, {"piece K 0 -", "piece K 0"},
		{"piece K 0 -", "piece K 0 - -"}, {"piece K 0 -", "piece K 0 "}, {"piece K 0 -", "piece K 0 --"}, {"piece K 0 -", "piece K 0 B"},
		{"piece K 0 -", "piece K 0 k"}, {"piece K 0 -", "piece K 0 KP"}, {"piece K 0 -", "piece K 0 1"}, {"piece K 0 -", "piece K 0 ."},
		{"piece K 0 -", "piece K 00 -"}, {"piece K 0 -", "piece K -0 -"}, {"piece K 0 -", "piece K +0 -"}, {"piece K 0 -", "piece K  -"},
		{"piece K 0 -", "piece K x -"}, {"piece K 0 -", "piece K 0x0 -"}, {"piece K 0 -", "piece K 0.0 -"}, {"piece K 0 -", "piece K 1e1 -"},
		{"piece K 0 -", "piece K 1_0 -"}, {"piece K 0 -", "piece K \u0661 -"}, {"piece K 0 -", "piece K 9223372036854775808 -"},
		{"piece K 0 -", "piece K -9223372036854775809 -"}, {"piece K 0 -", "piece K 18446744073709551616 -"}, {"piece K 0 -", "piece - 0 K"},
		{"piece K 0 -", "piece L 0 -"}, {"piece K 0 -", "piece k 0 -"}, {"piece K 0 -", "piece\n 0 -"}, {"piece K 0 -", "pieceK 0 -"},
		{"piece P 2 A", "piece P 2 a"}, {"piece P 2 A", "piece P 2 Q"}, {"piece A 64 A\n", ""}, {"piece Z 10 K\n", "\npiece Z 10 K\n"},
		{"piece K 0 -\nway 1", "way 1"}, {"way 1 0 1 may", "way 1 0 1 May"}, {"way 1 0 1 may", "way 1 0 1"}, {"way 1 0 1 may", "way 1 0 1 may may"},
		{"way 1 0 1 may", "way 1 0 1 might"}, {"way 1 0 1 may", "way 1 0 1 1"}, {"way 1 0 1 may", "way 1 -0 1 may"}, {"way 1 0 1 may", "way +1 0 1 may"},
		{"way 1 0 1 may", "way 1 0 01 may"}, {"way 1 0 1 may", "way 01 0 1 may"}, {"way 1 0 1 may", "way 1 - 1 may"}, {"way 1 0 1 may", "way 1 0 x may"},
		{"way 1 0 1 may", "way 1 0 1 "}, {"way 1 0 1 may", "way 1 0  may"}, {"way -7 7", "way --7 7"}, {"way -7 7", "way -07 7"}, {"way -7 7", "way - 7 7"},
		{"way -7 7", "ways -7 7"}, {"way -7 7", "way"}, {"way -7 7", "way -7 7\nway -7 7"},
		{"row akz\n", ""}, {"row akz\n", "row akz\nrow akz\n"}, {"row akz\n", "row ...\nrow akz\n"}, {"row akz", "row ak"}, {"row akz", "row akzz"}, {"row akz", "row a kz"},
		{"row akz", "row  akz"}, {"row akz", "row akz "}, {"row akz", "row akb"}, {"row akz", "row akB"}, {"row akz", "row ak-"}, {"row akz", "row ak0"},
		{"row akz", "row ak "}, {"row akz", "row"}, {"row akz", "row "}, {"row akz", "rowakz"}, {"row akz", "row ak\u00fa"}, {"row akz", "row a\u00fa"},
		{"row akz", "row ak\x1a"}, {"row akz", "row ak\xda"}, {"row AK.", "row AK"}, {"row AK.", "row AK\x00"}, {"row AK.", "row AK!"}, {"row AK.", "row AK_"}, {"row AK.", "row AK.."},
		{"falls\nkeeps", "keeps\nfalls"}, {"falls\n", "falls\nfalls\n"}, {"keeps\n", "keeps\nkeeps\n"}, {"falls", "falls "}, {"falls", "falls yes"},
		{"falls", "Falls"}, {"falls", "fall"}, {"falls", "fallsx"}, {"falls", ""}, {"keeps", " keeps"}, {"keeps", "kept"}, {"keeps", ""}, {"keeps", "keeps 1"},
		{"row AK.\nfalls", "falls\nrow AK."}, {"keeps\nend line 3 wins", "end line 3 wins\nkeeps"},
		{"end line 3 wins", "end line 3"}, {"end line 3 wins", "end line wins"}, {"end line 3 wins", "end line 3 draws"}, {"end line 3 wins", "end line K 3 wins"},
		{"end line 3 wins", "end line K wins"}, {"end line 3 wins", "end line 03 wins"}, {"end line 3 wins", "end line 3 wins "}, {"end line 3 wins", "end line 3 Wins"},
		{"end line 3 wins", "end lines 3 wins"}, {"end line 3 wins", "end"}, {"end line 3 wins", "end "}, {"end line 3 wins", "end line"}, {"end line 3 wins", "end line "},
		{"end line 3 wins", "end  line 3 wins"}, {"end line 3 wins", "end row 3 wins"}, {"end line 3 wins", "line 3 wins"}, {"end line 3 wins", "ends line 3 wins"},
		{"end line 3 wins", "end line 3 1"}, {"end line 3 wins", "end line3 wins"}, {"end line 3 wins", "endline 3 wins"},
		{"end reach P loses", "end reach p loses"}, {"end reach P loses", "end reach Q loses"}, {"end reach P loses", "end reach - loses"},
		{"end reach P loses", "end reach P"}, {"end reach P loses", "end reach loses"}, {"end reach P loses", "end reach P 0 loses"}, {"end reach P loses", "end reach 1 loses"},
		{"end reach P loses", "end reach PK loses"}, {"end reach P loses", "end reach  loses"}, {"end reach P loses", "end reach P draws"}, {"end reach P loses", "end reach . loses"},
		{"end take Z 64 wins", "end take 64 Z wins"}, {"end take Z 64 wins", "end take Z wins"}, {"end take Z 64 wins", "end take 64 wins"},
		{"end take Z 64 wins", "end take z 64 wins"}, {"end take Z 64 wins", "end take B 64 wins"}, {"end take Z 64 wins", "end take Z 064 wins"},
		{"end take Z 64 wins", "end take Z 64"}, {"end take Z 64 wins", "end take Z 64 lose"}, {"end take Z 64 wins", "end take Z 64 64 wins"},
		{"blocked wins\n", ""}, {"blocked wins", "blocked win"}, {"blocked wins", "blocked"}, {"blocked wins", "blocked 1"}, {"blocked wins", "blocked wins wins"},
		{"blocked wins", "blocked draw"}, {"blocked wins", "blocked "}, {"blocked wins", "Blocked wins"}, {"blocked wins", "blocked wins\nblocked wins"},
		{"blocked wins\nquiet 200", "quiet 200\nblocked wins"}, {"end take K 1 loses\nblocked wins", "blocked wins\nend take K 1 loses"},
		{"quiet 200\n", ""}, {"quiet 200", "quiet 0200"}, {"quiet 200", "quiet"}, {"quiet 200", "quiet "}, {"quiet 200", "quiet 200 "}, {"quiet 200", "quiet 2 00"},
		{"quiet 200", "quiet 9223372036854775808"}, {"quiet 200", "quiet -9223372036854775809"}, {"quiet 200", "quiet 99999999999999999999999999"},
		{"quiet 200", "quiet -0"}, {"quiet 200", "quiet 00"}, {"quiet 200", "quiet +2"}, {"quiet 200", "quiet -"}, {"quiet 200", "quiet x"}, {"quiet 200", "Quiet 200"},
		{"quiet 200\nrepeat 5", "repeat 5\nquiet 200"}, {"repeat 5\n", ""}, {"repeat 5\n", "repeat 5"}, {"repeat 5\n", "repeat 5\n\n"}, {"repeat 5\n", "repeat 5\nrepeat 5\n"},
		{"repeat 5\n", "repeat 5\r\n"}, {"repeat 5\n", "repeat 5 \n"}, {"repeat 5\n", "repeat 5\n "}, {"repeat 5\n", "repeat 5\nend line 3 wins\n"}, {"repeat 5\n", "repeat 5\x00"},
		{"repeat 5\n", "repeat\n"}, {"repeat 5\n", "repeat \n"}, {"repeat 5\n", "repeat 05\n"}, {"repeat 5\n", "repeat five\n"}, {"repeat 5\n", "repeat 5\ngame A 1 1\n"},
		{"repeat 5\n", "repeat 9223372036854775808\n"}, {sampleText, ""}, {sampleText, "\n"}, {sampleText, "game"}, {sampleText, "game\n"}, {sampleText, strings.Repeat("\n", 8192)},
		{sampleText, strings.Repeat(" ", 8192)}, {sampleText, "game A 8 8\n" + strings.Repeat("piece A 0 A\n", 600)}, {sampleText, sampleText + sampleText},
	} {
		l = append(l, swap{pair[0], pair[1], api.ErrSyntax})
	}
	return l
}

// checkErrors returns changes of the sample's text after which it has the form, but rules.Check has an error.
func checkErrors() []swap {
	return []swap{
		{"SAMPLE2", "sample2", api.ErrName},
		{"SAMPLE2", "", api.ErrName},
		{"SAMPLE2", "2SAMPLE", api.ErrName},
		{"SAMPLE2", "SAMPLE234", api.ErrName},
		{"SAMPLE2", "-", api.ErrName},
		{"SAMPLE2", "\u00c4", api.ErrName},
		{"SAMPLE2", "S\tA", api.ErrName},
		{"SAMPLE2", "S\r", api.ErrName},
		{"SAMPLE2", "S\xff\x00", api.ErrName},
		{"SAMPLE2", strings.Repeat("A", 7000), api.ErrName},
		{"piece Z 10", "piece Y 0 -\npiece X 0 -\npiece W 0 -\npiece Z 10", api.ErrLarge},
		{"piece Z 10", "piece ! 0 -\npiece Z 10", api.ErrName},
		{"piece Z 10", "piece \xc4 0 \xc4\npiece Z 10", api.ErrName},
		{"piece Z 10", "piece - 0 -\npiece Z 10", api.ErrName},
		{"piece Z 10", "piece . 0 .\npiece Z 10", api.ErrName},
		{"piece Z 10", "piece k 0 k\npiece Z 10", api.ErrName},
		{"piece Z 10", "piece \x00 0 \x00\npiece Z 10", api.ErrName},
		{"piece Z 10", "piece \t 0 -\npiece Z 10", api.ErrName},
		{"piece Z 10", "piece \r 0 -\npiece Z 10", api.ErrName},
		{"piece Z 10", "piece [ 0 -\npiece Z 10", api.ErrName},
		{"piece Z 10", "piece @ 0 -\npiece Z 10", api.ErrName},
		{"piece Z 10", "piece K 0 -\npiece Z 10", api.ErrTwice},
		{"piece Z 10", "piece P 0 P\npiece Z 10", api.ErrTwice},
		{"piece Z 10", "piece Z 65", api.ErrRange},
		{"piece Z 10", "piece Z -1", api.ErrRange},
		{"piece Z 10", "piece Z 9223372036854775807", api.ErrRange},
		{"piece Z 10", "piece Z -9223372036854775808", api.ErrRange},
		{"way 3 4 2 may\n", strings.Repeat("way 3 4 2 may\n", 17), api.ErrLarge},
		{"way 3 4 2", "way 8 4 2", api.ErrRange},
		{"way 3 4 2", "way -8 4 2", api.ErrRange},
		{"way 3 4 2", "way 3 8 2", api.ErrRange},
		{"way 3 4 2", "way 3 -8 2", api.ErrRange},
		{"way 3 4 2", "way 0 0 2", api.ErrRange},
		{"way 3 4 2", "way 3 4 0", api.ErrRange},
		{"way 3 4 2", "way 3 4 8", api.ErrRange},
		{"way 3 4 2", "way -9223372036854775808 9223372036854775807 2", api.ErrRange},
		{"end line 3 wins", "end line 3 wins\nend line 3 wins", api.ErrLarge},
		{"end line 3 wins", "end line 0 wins", api.ErrRange},
		{"end line 3 wins", "end line -3 wins", api.ErrRange},
		{"end line 3 wins", "end line 65 wins", api.ErrRange},
		{"end take Z 64", "end take Z 65", api.ErrRange},
		{"end take Z 64", "end take Z 0", api.ErrRange},
		{"quiet 200", "quiet 201", api.ErrRange},
		{"quiet 200", "quiet -1", api.ErrRange},
		{"quiet 200", "quiet 9223372036854775807", api.ErrRange},
		{"repeat 5", "repeat 1", api.ErrRange},
		{"repeat 5", "repeat 6", api.ErrRange},
		{"repeat 5", "repeat -2", api.ErrRange},
		{sampleText, "game A 1 1\nrow .\nblocked loses\nquiet 0\nrepeat 0\n", api.ErrNone},
		{sampleText, "game a 1 1\nrow .\nblocked loses\nquiet 0\nrepeat 0\n", api.ErrName},
	}
}

func expectError(t *testing.T, s string, want api.Errno) {
	t.Helper()
	if got, err := ruletext.Parse(s); !equal(got, api.Rules{}) || err != want {
		t.Errorf("Parse(%q): %+v, %d, want nothing, %d", s, got, err, want)
	}
}

func TestP117ParseSyntax(t *testing.T) {
	for _, c := range syntaxErrors() {
		expectError(t, c.in(t, sampleText), c.want)
	}
}

func TestP117ParseCheck(t *testing.T) {
	for _, c := range checkErrors() {
		expectError(t, c.in(t, sampleText), c.want)
	}
}

// TestP117ParseSyntaxBeforeCheck has both errors in one text: the form comes first, wherever it is broken.
func TestP117ParseSyntaxBeforeCheck(t *testing.T) {
	seen := map[api.Errno]int{}
	for _, check := range checkErrors() {
		s := check.in(t, sampleText)
		for _, form := range syntaxErrors() {
			if strings.Count(s, form.from) == 1 {
				seen[compare(t, form.in(t, s))]++
			}
		}
	}
	// With further types, some of the letters are those of types.
	if others := seen[api.ErrName] + seen[api.ErrTwice]; seen[api.ErrSyntax] < 5000 || others > 20 || len(seen) > 3 {
		t.Errorf("the errors came up so often: %v", seen)
	}
}

// TestP117ParseCheckOrder has the errors of rules.Check in pairs: the first one is the result.
func TestP117ParseCheckOrder(t *testing.T) {
	for _, first := range checkErrors() {
		s := first.in(t, sampleText)
		for _, later := range checkErrors() {
			if first.from != later.from && strings.Count(s, later.from) == 1 {
				if err := compare(t, later.in(t, s)); err == api.OK || err == api.ErrSyntax {
					t.Errorf("%q and %q: the error is %d", first.to, later.to, err)
				}
			}
		}
	}
}

func TestP117ParseLarge(t *testing.T) {
	pad := func(size int) string {
		return strings.Replace(sampleText, "SAMPLE2", strings.Repeat("A", size-len(sampleText)+len("SAMPLE2")), 1)
	}
	expectError(t, pad(8191), api.ErrName)
	expectError(t, pad(8192), api.ErrName)
	expectError(t, pad(8193), api.ErrLarge)
	expectError(t, pad(1<<20), api.ErrLarge)
	for _, c := range []string{"\n", " ", "x", "game A 1 1\n", "\x00", "\xff"} {
		s := strings.Repeat(c, 8193)
		expectError(t, s[:8192], api.ErrSyntax)
		expectError(t, s[:8193], api.ErrLarge)
		expectError(t, s, api.ErrLarge)
	}
	expectError(t, sampleText+strings.Repeat("\n", 8193-len(sampleText)), api.ErrLarge)
	expectError(t, sampleText+strings.Repeat("\n", 8192-len(sampleText)), api.ErrSyntax)
}

const (
	number = `(0|-?[1-9][0-9]*)`
	word   = `([^ \n]*)`
	one    = `([^ \n])`
	take   = `(never|may|must)`
	how    = `(wins|loses)`
)

// First all lines of a kind are matched together, then each of them with its words.
var (
	pieceLine = `piece ` + one + ` ` + number + ` ` + one + `\n`
	wayLine   = `way ` + number + ` ` + number + ` ` + number + ` ` + take + `\n`
	rowLine   = `row ([^ \n]+)\n`
	endLine   = `end (?:(line) ` + number + `|(reach) ` + one + `|(take) ` + one + ` ` + number + `) ` + how + `\n`
	whole     = regexp.MustCompile(`^(?P<game>game ` + word + ` [1-8] [1-8]\n)(?P<pieces>(?:` + pieceLine + `(?:` + wayLine + `)*)*)(?P<rows>(?:` + rowLine + `)*)(?P<falls>(?:falls\n)?)(?P<keeps>(?:keeps\n)?)(?P<ends>(?:` + endLine + `)*)(?P<last>blocked (?:loses|wins|draws)\nquiet ` + number + `\nrepeat ` + number + `\n)$`)
	pieceOnly = regexp.MustCompile(pieceLine + `((?:` + wayLine + `)*)`)
	wayOnly   = regexp.MustCompile(wayLine)
	rowOnly   = regexp.MustCompile(rowLine)
	endOnly   = regexp.MustCompile(endLine)
)

// wide makes a rune of each byte, so that a regular expression counts bytes.
func wide(s string) string {
	var l []rune
	for _, c := range []byte(s) {
		l = append(l, rune(c))
	}
	return string(l)
}

// narrow undoes wide.
func narrow(s string) string {
	var l []byte
	for _, c := range s {
		l = append(l, byte(c))
	}
	return string(l)
}

// A slowReader notes down what regular expressions do not tell.
type slowReader struct {
	wrong   bool
	letters string // wide
}

func (p *slowReader) number(s string) int {
	n, ok := new(big.Int).SetString(s, 10)
	if !ok || !n.IsInt64() {
		p.wrong = true
		return 0
	}
	return int(n.Int64())
}

func (p *slowReader) kind(s string) int {
	before, _, found := strings.Cut(p.letters, s)
	if !found {
		p.wrong = true
	}
	return len([]rune(before))
}

func (p *slowReader) cell(c rune) int {
	if c == '.' {
		return 0
	}
	if i := p.find(c); i >= 0 {
		return 2*i + 1
	}
	for capital := 'A'; capital <= 'Z'; capital++ {
		if strings.ToLower(string(capital)) == string(c) && p.find(capital) >= 0 {
			return 2*p.find(capital) + 2
		}
	}
	p.wrong = true
	return 0
}

func (p *slowReader) find(c rune) int {
	return slices.Index([]rune(p.letters), c)
}

// slowForm reports whether a text has the form of rules, whatever they are, and returns them.
func slowForm(s string) (api.Rules, bool) {
	m := whole.FindStringSubmatch(wide(s))
	if m == nil {
		return api.Rules{}, false
	}
	part := func(name string) string { return m[whole.SubexpIndex(name)] }
	var p slowReader
	first := strings.Split(strings.TrimSuffix(part("game"), "\n"), " ")
	r := api.Rules{Name: narrow(first[1]), Width: p.number(first[2]), Height: p.number(first[3])}
	pieces := pieceOnly.FindAllStringSubmatch(part("pieces"), -1)
	for _, w := range pieces {
		p.letters += w[1]
	}
	for _, w := range pieces {
		piece := api.RulePiece{Letter: narrow(w[1])[0], Hand: p.number(w[2])}
		if w[3] != "-" {
			piece.Promote = p.kind(w[3]) + 1
		}
		for _, v := range wayOnly.FindAllStringSubmatch(w[4], -1) {
			piece.Ways = append(piece.Ways, api.RuleWay{DX: p.number(v[1]), DY: p.number(v[2]), Most: p.number(v[3]), Take: strings.Index("never may   must", v[4]) / 6})
		}
		r.Pieces = append(r.Pieces, piece)
	}
	rows := rowOnly.FindAllStringSubmatch(part("rows"), -1)
	p.wrong = p.wrong || len(rows) != r.Height
	slices.Reverse(rows)
	for _, w := range rows {
		p.wrong = p.wrong || len([]rune(w[1])) != r.Width
		for _, c := range w[1] {
			r.Start = append(r.Start, p.cell(c))
		}
	}
	r.Falls, r.Keeps = part("falls") != "", part("keeps") != ""
	for _, w := range endOnly.FindAllStringSubmatch(part("ends"), -1) {
		e := api.RuleEnd{Loses: w[8] == "loses"}
		switch {
		case w[1] != "":
			e.Count = p.number(w[2])
		case w[3] != "":
			e.Kind, e.Piece = 1, p.kind(w[4])
		default:
			e.Kind, e.Piece, e.Count = 2, p.kind(w[6]), p.number(w[7])
		}
		r.Ends = append(r.Ends, e)
	}
	last := strings.Fields(part("last"))
	r.Blocked, r.Quiet, r.Repeat = slices.Index([]string{"loses", "wins", "draws"}, last[1]), p.number(last[3]), p.number(last[5])
	return r, !p.wrong
}

// compare holds Parse against the slow definition, and against Print.
func compare(t *testing.T, s string) api.Errno {
	t.Helper()
	r, ok := slowForm(s)
	want := api.ErrSyntax
	if ok {
		want = rules.Check(r)
	}
	if len(s) > 8192 {
		want = api.ErrLarge
	}
	if want != api.OK {
		r = api.Rules{}
	}
	got, err := ruletext.Parse(s)
	if !equal(got, r) || err != want {
		t.Fatalf("Parse(%q): %+v, %d, want %+v, %d", s, got, err, r, want)
	}
	if err == api.OK {
		if text, _ := ruletext.Print(got); text != s {
			t.Fatalf("Print of what Parse has read: %q, want %q", text, s)
		}
	}
	return err
}

// TestP117ParseCut has all beginnings and all ends of texts.
func TestP117ParseCut(t *testing.T) {
	for _, s := range []string{sampleText, leastText} {
		for i := range s {
			compare(t, s[:i])
			compare(t, s[i:])
		}
	}
}

// TestP117ParseEachByte has each byte of a text left out, doubled, and replaced by, and preceded by, others.
func TestP117ParseEachByte(t *testing.T) {
	for _, s := range []string{sampleText, leastText} {
		for i := range s {
			compare(t, s[:i]+s[i+1:])
			compare(t, s[:i+1]+s[i:])
			for _, c := range []byte("\n \t\r\x00-+0129.AKLPZakpz_[@\x1a\x7f\x80\xc4\xe4\xff") {
				compare(t, s[:i]+string([]byte{c})+s[i+1:])
				compare(t, s[:i]+string([]byte{c})+s[i:])
			}
		}
	}
}

// TestP117ParseEachLetter has all pairs of a letter of a type and a byte in a row, after to, and after reach.
func TestP117ParseEachLetter(t *testing.T) {
	for letter := range 256 {
		for c := range 256 {
			l, b := string([]byte{byte(letter)}), string([]byte{byte(c)})
			compare(t, "game L 2 1\npiece "+l+" 0 -\nrow ."+b+"\nblocked loses\nquiet 0\nrepeat 0\n")
			compare(t, "game L 2 1\npiece "+l+" 0 "+b+"\nrow ..\nblocked loses\nquiet 0\nrepeat 0\n")
			compare(t, "game L 2 1\npiece "+l+" 0 -\nrow ..\nend reach "+b+" wins\nblocked loses\nquiet 0\nrepeat 0\n")
		}
	}
}

// rowText returns a text with one row, and with types whose letters are the bytes of a string.
func rowText(letters, row string) string {
	s := fmt.Sprintf("game L %d 1\n", len(row))
	for i := range len(letters) {
		s += "piece " + letters[i:i+1] + " 0 -\n"
	}
	return s + "row " + row + "\nblocked loses\nquiet 0\nrepeat 0\n"
}

// TestP117ParseRowPairs has all pairs of a letter of a type and the byte behind it in a row, and so all characters of two bytes.
func TestP117ParseRowPairs(t *testing.T) {
	seen := map[api.Errno]int{}
	for letter := range 256 {
		for c := range 256 {
			l := string([]byte{byte(letter)})
			seen[compare(t, rowText(l, l+string([]byte{byte(c)})))]++
		}
	}
	// A capital letter has three bytes that may follow it, any other byte has two, and a point has one; a space and a line feed are no letters.
	ok, name := 26*3, (254-26-1)*2+1
	if seen[api.OK] != ok || seen[api.ErrName] != name || seen[api.ErrSyntax] != 1<<16-ok-name {
		t.Errorf("the errors came up so often: %v", seen)
	}
}

// TestP117ParseRowCharacters has characters of two to four bytes in a row, of which some are letters of types: all must be.
func TestP117ParseRowCharacters(t *testing.T) {
	for _, character := range []string{"\u0080", "\u00e9", "\u07ff", "\u0800", "\u20ac", "\ud7ff", "\ufffd", "\uffff", "\U00010000", "\U0001f600", "\U0010ffff"} {
		for chosen := range 1 << len(character) {
			letters := "B"
			for i := range len(character) {
				if chosen>>i&1 == 1 {
					letters += character[i : i+1]
				}
			}
			isCell := func(c byte) bool { return strings.IndexByte(letters, c) >= 0 }
			want := api.ErrSyntax
			if !slices.ContainsFunc([]byte(character), func(c byte) bool { return !isCell(c) }) {
				want = api.ErrName
			}
			for _, row := range []string{character, "." + character, character + ".", "Bb" + character + ".b", character + character} {
				if err := compare(t, rowText(letters, row)); err != want {
					t.Errorf("Parse(%q): %d, want %d", rowText(letters, row), err, want)
				}
			}
		}
	}
}

// TestP117ParseLines has texts with lines left out, doubled, exchanged, and moved.
func TestP117ParseLines(t *testing.T) {
	lines := strings.SplitAfter(sampleText, "\n")
	lines = lines[:len(lines)-1]
	for i := range lines {
		for j := range lines {
			swapped := slices.Clone(lines)
			swapped[i], swapped[j] = swapped[j], swapped[i]
			compare(t, strings.Join(swapped, ""))
			compare(t, strings.Join(slices.Insert(slices.Clone(lines), i, lines[j]), ""))
			compare(t, strings.Join(slices.Delete(slices.Clone(lines), min(i, j), max(i, j)+1), ""))
			moved := slices.Delete(slices.Clone(lines), i, i+1)
			compare(t, strings.Join(slices.Insert(moved, min(j, len(moved)), lines[i]), ""))
		}
	}
}

// TestP117ParseSides has boards of all sizes with as many rows of as many cells, and with others.
func TestP117ParseSides(t *testing.T) {
	for w := range 11 {
		for h := range 11 {
			for rows := range 11 {
				for _, cells := range []int{0, w, 9} {
					s := fmt.Sprintf("game L %d %d\npiece A 0 -\n", w, h) + strings.Repeat("row "+strings.Repeat("A", cells)+"\n", rows) + "blocked loses\nquiet 0\nrepeat 0\n"
					want := api.ErrSyntax
					if 1 <= w && w <= 8 && 1 <= h && h <= 8 && cells == w && rows == h {
						want = api.OK
					}
					if err := compare(t, s); err != want {
						t.Errorf("Parse(%q): %d, want %d", s, err, want)
					}
				}
			}
		}
	}
}

// TestP117ParseScattered changes words of texts without a pattern.
func TestP117ParseScattered(t *testing.T) {
	random := rand.New(rand.NewPCG(4, 117))
	pool := strings.Fields(sampleText + " game piece way row falls keeps end blocked quiet repeat line reach take A K P Z a k - . .. ... 0 1 2 7 8 9 -1 -7 -8 64 65 200 201 00 9223372036854775807 -9223372036854775808 9223372036854775808 never may must wins loses draws")
	seen := map[api.Errno]int{}
	for i := range 12000 {
		s := sampleText
		if i%2 == 0 {
			s = slowText(scattered(uint64(i % 100)))
		}
		words := regexp.MustCompile(`[^ \n]+`).FindAllStringIndex(s, -1)
		for range random.IntN(3) {
			at := words[random.IntN(len(words))]
			// The places of words are those of the text at first; later changes may cut words.
			if at[1] <= len(s) {
				s = s[:at[0]] + pool[random.IntN(len(pool))] + s[at[1]:]
			}
		}
		seen[compare(t, s)]++
	}
	for _, err := range []api.Errno{api.OK, api.ErrSyntax, api.ErrRange, api.ErrName} {
		if seen[err] < 20 {
			t.Errorf("the error %d came up %d times only", err, seen[err])
		}
	}
}
