package place_test

import (
	"fmt"
	"math/rand/v2"
	"slices"
	"strings"
	"testing"

	"gamehall/api"
	"gamehall/place"
	"gamehall/testkit"
)

// The general rules of the document, as far as they concern package place.

// callAll calls all functions of the package.
func callAll(r api.Rules, p, q api.Position, s string) {
	place.Check(r, p)
	place.Begin(r)
	place.Same(p, q)
	place.Other(r, p)
	place.Text(r, p)
	place.Read(r, s)
	place.Clone(r, p)
}

// TestP1Numbers needs no conditions: a panic, or a call without an end, fails it.
func TestP1Numbers(t *testing.T) {
	callAll(api.Rules{}, api.Position{}, api.Position{}, "")
	r, p := sample(), middle()
	for i := range testkit.RuleNumbers(&r) {
		for _, n := range extremes {
			r := sample()
			*testkit.RuleNumbers(&r)[i] = n
			callAll(r, middle(), middle(), middleText)
			// All others are at and beyond their bounds, too.
			for j, spot := range testkit.RuleNumbers(&r) {
				*spot = extremes[(i+j)%len(extremes)]
			}
			callAll(r, middle(), middle(), middleText)
		}
	}
	for i := range testkit.PositionNumbers(&p) {
		for _, n := range extremes {
			p := middle()
			*testkit.PositionNumbers(&p)[i] = n
			callAll(sample(), p, middle(), middleText)
			for j, spot := range testkit.PositionNumbers(&p) {
				*spot = extremes[(i+j)%len(extremes)]
			}
			callAll(sample(), p, middle(), middleText)
		}
	}
	for letter := range 256 {
		r := sample()
		r.Pieces[1].Letter = byte(letter)
		callAll(r, middle(), middle(), middleText)
	}
}

func TestP1Lists(t *testing.T) {
	for _, n := range []int{0, 1, 2, 3, 11, 13, 64, 65, 1 << 12, 1 << 16} {
		for _, list := range []func(p *api.Position){
			func(p *api.Position) { p.Cells = make([]int, n) },
			func(p *api.Position) { p.Hands[0] = make([]int, n) },
			func(p *api.Position) { p.Hands[1] = make([]int, n) },
			func(p *api.Position) { p.Hands = [2][]int{make([]int, n), make([]int, n)} },
		} {
			p := middle()
			list(&p)
			callAll(sample(), p, middle(), middleText)
			callAll(sample(), middle(), p, middleText)
			callAll(sample(), p, p, middleText)
			callAll(api.Rules{}, p, p, middleText)
		}
	}
}

// TestP1Texts has texts that repeat what is read in loops, and others.
func TestP1Texts(t *testing.T) {
	for _, s := range []string{"", " ", "/", "0", "9", "3/", "K", "k", "-", "K1", "K9", "1 ", "- ", "\x00", "\n", "\xff\xfe", "\u00c4", "9/9 "} {
		for _, n := range []int{1, 2, 3, 4, 5, 12, 100, 512, 4000, 8192, 1 << 16} {
			long := strings.Repeat(s, n)
			for _, text := range []string{long, long + " - - 1 0", "3/3/3/3 " + long + " - 1 0", "3/3/3/3 - " + long + " 1 0", "3/3/3/3 - - " + long + " 0", "3/3/3/3 - - 1 " + long, "3/3/3/3 - - 1 0" + long} {
				callAll(sample(), middle(), middle(), text)
				callAll(board(8, 8, "ABCDEF"), middle(), middle(), text)
			}
		}
	}
	for _, a := range extremes {
		for _, b := range extremes {
			place.Read(sample(), fmt.Sprintf("3/3/3/3 K%d A%d %d %d", a, b, a, b))
			place.Read(sample(), fmt.Sprintf("%d/%d/3/3 - - 1 0", a, b))
		}
	}
}

// wholeText tells all that rules and positions have in their memory.
func wholeText(r api.Rules, l ...api.Position) string {
	s := fmt.Sprint(testkit.WholeRules(r))
	for _, p := range l {
		s += fmt.Sprint(testkit.WholePosition(p))
	}
	return s
}

func TestP2ArgumentsStay(t *testing.T) {
	l := all()
	for _, c := range wrongs() {
		p := middle()
		c.do(&p)
		l = append(l, pair{sample(), p})
	}
	for _, r := range wrongRules() {
		l = append(l, pair{r, middle()})
	}
	for _, c := range l {
		r, p, q := testkit.RoomyRules(c.r), testkit.RoomyPosition(c.p), testkit.RoomyPosition(middle())
		before := wholeText(r, p, q)
		callAll(r, p, q, middleText)
		callAll(r, q, p, middleText)
		if after := wholeText(r, p, q); after != before {
			t.Errorf("the arguments became %s, want %s", after, before)
		}
	}
}

// results returns the positions that the functions have for equal arguments, each in memory of its own.
func results(r api.Rules, p api.Position, s string) []api.Position {
	begin, _ := place.Begin(r)
	other, _ := place.Other(r, p)
	read, _ := place.Read(r, s)
	cloned, _ := place.Clone(r, p)
	return []api.Position{begin, other, read, cloned}
}

// TestP2ResultsAreNew changes results, and looks whether the arguments, or results of equal calls, have changed with them.
func TestP2ResultsAreNew(t *testing.T) {
	for _, c := range all() {
		r, p, s := testkit.RoomyRules(c.r), testkit.RoomyPosition(c.p), slowText(c.r, c.p)
		before := wholeText(r, p)
		spoiled, kept := results(r, p, s), results(r, p, s)
		want := fmt.Sprint(spoiled)
		for _, q := range spoiled {
			testkit.SpoilPosition(q)
		}
		if after := wholeText(r, p); after != before {
			t.Errorf("after a change of the results the arguments are %s, want %s", after, before)
		}
		if got := fmt.Sprint(kept); got != want {
			t.Errorf("after a change of the results those of other calls are %s, want %s", got, want)
		}
		if got := fmt.Sprint(results(r, p, s)); got != want {
			t.Errorf("after a change of the results equal calls have %s, want %s", got, want)
		}
	}
}

// TestP2ArgumentsAreNotRetained changes the arguments after the calls.
func TestP2ArgumentsAreNotRetained(t *testing.T) {
	for _, c := range all() {
		r, p, s := testkit.RoomyRules(c.r), testkit.RoomyPosition(c.p), slowText(c.r, c.p)
		got := results(r, p, s)
		text, _ := place.Text(r, p)
		want := fmt.Sprint(got)
		testkit.SpoilRules(r)
		testkit.SpoilPosition(p)
		if fmt.Sprint(got) != want || text != s {
			t.Errorf("after a change of the arguments: %v, %q, want %s, %q", got, text, want, s)
		}
		if again := fmt.Sprint(results(c.r, c.p, s)); again != want {
			t.Errorf("after a change of the arguments equal calls have %s, want %s", again, want)
		}
	}
}

// TestP2ResultsAreApart spoils one list of a result, together with its unused capacity, and looks at the others. The lists of the arguments share their memory.
func TestP2ResultsAreApart(t *testing.T) {
	r := board(3, 1, "ABC")
	shared := make([]int, 3, 16)
	r.Start = shared
	p := api.Position{Cells: shared, Hands: [2][]int{shared, shared}}
	for i := range results(r, p, "3 - - 1 0") {
		for list := range 3 {
			q := results(r, p, "3 - - 1 0")[i]
			lists := [][]int{q.Cells, q.Hands[0], q.Hands[1]}
			testkit.Spoil(lists[list], 9)
			for other, l := range lists {
				if other != list && slices.Contains(testkit.Whole(l), 9) {
					t.Errorf("the lists %d and %d of result %d share memory", list, other, i)
				}
			}
		}
	}
}

// TestP2Deterministic compares equal calls with others between them.
func TestP2Deterministic(t *testing.T) {
	call := func(c pair) string {
		text, written := place.Text(c.r, c.p)
		_, broken := place.Read(c.r, text+" ")
		return fmt.Sprint(place.Check(c.r, c.p), place.Same(c.p, c.p), results(c.r, c.p, text), text, written, broken)
	}
	var before []string
	for _, c := range all() {
		before = append(before, call(c))
	}
	l := all()
	for _, i := range rand.New(rand.NewPCG(5, 2)).Perm(len(l)) {
		if got := call(l[i]); got != before[i] {
			t.Errorf("equal calls for %+v: %s, then %s", l[i], before[i], got)
		}
	}
}
