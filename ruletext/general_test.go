package ruletext_test

import (
	"fmt"
	"math"
	"slices"
	"strings"
	"testing"

	"gamehall/api"
	"gamehall/ruletext"
	"gamehall/testkit"
)

// The general rules of the document, as far as they concern package ruletext.

// extremes are ints at and beyond all bounds that rules have.
var extremes = []int{math.MinInt, math.MinInt + 1, -65, -8, -7, -1, 0, 1, 2, 3, 6, 7, 8, 9, 13, 64, 65, 200, 201, 1 << 32, math.MaxInt - 1, math.MaxInt}

// TestP1Print needs no conditions: a panic, or a call without an end, fails it.
func TestP1Print(t *testing.T) {
	r := sample()
	for i := range testkit.RuleNumbers(&r) {
		for _, n := range extremes {
			r := sample()
			*testkit.RuleNumbers(&r)[i] = n
			ruletext.Print(r)
			// All others are at and beyond their bounds, too.
			for j, spot := range testkit.RuleNumbers(&r) {
				*spot = extremes[(i+j)%len(extremes)]
			}
			ruletext.Print(r)
		}
	}
	for _, r := range wrongRules() {
		ruletext.Print(r)
	}
	for letter := range 256 {
		r := sample()
		r.Pieces[2].Letter = byte(letter)
		ruletext.Print(r)
	}
}

// TestP1Parse has texts that repeat what is read in loops, and others.
func TestP1Parse(t *testing.T) {
	for _, s := range []string{"", "\n", " ", "\x00", "game", "game \n", "game A 8 8\n", "piece A 0 -\n", "way 1 1 1 may\n", "row A\n", "falls\n", "end line 1 wins\n", "end ", "end\n", "-", "9", "piece \n", "\xff\xfe"} {
		for _, n := range []int{1, 2, 3, 7, 100, 512, 4000, 8192, 1 << 16} {
			ruletext.Parse(strings.Repeat(s, n))
			ruletext.Parse("game A 8 8\n" + strings.Repeat(s, n))
			ruletext.Parse("game A 1 1\npiece A 0 -\n" + strings.Repeat(s, n))
			ruletext.Parse("game A 1 1\npiece A 0 -\nrow .\n" + strings.Repeat(s, n))
			ruletext.Parse(sampleText + strings.Repeat(s, n))
		}
	}
	for _, a := range extremes {
		for _, b := range extremes {
			ruletext.Parse(fmt.Sprintf("game A %d %d\npiece A %d -\nway %d %d 1 may\nrow A\nend line %d wins\nblocked wins\nquiet %d\nrepeat %d\n", a, b, a, a, b, b, a, b))
		}
	}
}

func TestP2ArgumentsStay(t *testing.T) {
	l := append(all(), sample())
	for _, r := range wrongRules() {
		l = append(l, r)
	}
	for _, r := range l {
		r = testkit.RoomyRules(r)
		before := fmt.Sprint(testkit.WholeRules(r))
		ruletext.Print(r)
		if after := fmt.Sprint(testkit.WholeRules(r)); after != before {
			t.Errorf("the argument became %s, want %s", after, before)
		}
	}
}

// TestP2ResultsAreNew changes a result, and looks whether those of equal calls have changed with it.
func TestP2ResultsAreNew(t *testing.T) {
	for _, s := range []string{sampleText, leastText, slowText(most())} {
		spoiled, _ := ruletext.Parse(s)
		kept, _ := ruletext.Parse(s)
		want := fmt.Sprint(spoiled)
		testkit.SpoilRules(spoiled)
		if got := fmt.Sprint(kept); got != want {
			t.Errorf("after a change of the result that of another call is %s, want %s", got, want)
		}
		if again, err := ruletext.Parse(s); fmt.Sprint(again) != want || err != api.OK {
			t.Errorf("after a change of the result an equal call has %v, %d, want %s", again, err, want)
		}
	}
}

// TestP2ResultsAreApart changes the ways of one type of a result, and looks at those of the others.
func TestP2ResultsAreApart(t *testing.T) {
	way := api.RuleWay{DX: -7, DY: -7, Most: 7}
	r, _ := ruletext.Parse(slowText(most()))
	for i := range r.Pieces {
		testkit.Spoil(r.Pieces[i].Ways, api.RuleWay{})
		for j := i + 1; j < len(r.Pieces); j++ {
			if slices.ContainsFunc(r.Pieces[j].Ways, func(w api.RuleWay) bool { return w != way }) {
				t.Errorf("the types %d and %d of the result share memory", i, j)
			}
		}
	}
}

// TestP2ArgumentsAreNotRetained changes the argument after the call.
func TestP2ArgumentsAreNotRetained(t *testing.T) {
	r := testkit.RoomyRules(sample())
	s, _ := ruletext.Print(r)
	testkit.SpoilRules(r)
	if s != sampleText {
		t.Errorf("after a change of the argument: %q, want %q", s, sampleText)
	}
	if again, err := ruletext.Print(sample()); again != sampleText || err != api.OK {
		t.Errorf("after a change of the argument an equal call has %q, %d, want %q", again, err, sampleText)
	}
}

// TestP2Deterministic compares equal calls with others between them.
func TestP2Deterministic(t *testing.T) {
	call := func(r api.Rules) string {
		s, printed := ruletext.Print(r)
		back, parsed := ruletext.Parse(s)
		_, broken := ruletext.Parse(s + "\n")
		return fmt.Sprint(s, printed, back, parsed, broken)
	}
	var before []string
	for _, r := range all() {
		before = append(before, call(r))
	}
	for i, r := range all() {
		if got := call(r); got != before[i] {
			t.Errorf("equal calls for %+v: %s, then %s", r, before[i], got)
		}
	}
}
