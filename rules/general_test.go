package rules_test

import (
	"fmt"
	"slices"
	"strings"
	"testing"

	"gamehall/api"
	"gamehall/rules"
	"gamehall/testkit"
)

// The general rules of the document, as far as they concern package rules.

// callAll calls each function that has rules.
func callAll(r api.Rules) {
	rules.Check(r)
	rules.Mirror(r)
	rules.Clone(r)
	for _, n := range []int{-1, 0, 1, 1 << 32} {
		rules.Last(r, n, n)
		rules.Last(r, 1, n)
	}
}

// TestP1 needs no conditions: a panic, or a call without an end, fails it.
func TestP1(t *testing.T) {
	callAll(api.Rules{})
	for _, n := range []int{1, 6, 7, 64, 1 << 12, 1 << 16} {
		rules.Name(strings.Repeat("A", n))
		rules.Name(strings.Repeat("\xff", n))
		for _, list := range []func(r *api.Rules){
			func(r *api.Rules) { r.Name = strings.Repeat("A", n) },
			func(r *api.Rules) { r.Pieces = make([]api.RulePiece, n) },
			func(r *api.Rules) { r.Pieces = slices.Repeat([]api.RulePiece{{Letter: 'A'}}, n) },
			func(r *api.Rules) { r.Pieces[0].Ways = make([]api.RuleWay, n) },
			func(r *api.Rules) { r.Start = make([]int, n) },
			func(r *api.Rules) { r.Ends = make([]api.RuleEnd, n) },
		} {
			r := sample()
			list(&r)
			callAll(r)
		}
	}
	all := sample()
	for i := range testkit.RuleNumbers(&all) {
		for _, n := range extremes {
			r := sample()
			*testkit.RuleNumbers(&r)[i] = n
			callAll(r)
			// All others are at and beyond their bounds, too.
			for j, spot := range testkit.RuleNumbers(&r) {
				*spot = extremes[(i+j)%len(extremes)]
			}
			callAll(r)
		}
	}
}

func TestP2ArgumentsStay(t *testing.T) {
	for _, c := range append(wrongs(), change{"the sample", func(*api.Rules) {}, api.OK}) {
		r := testkit.RoomyRules(sample())
		c.do(&r)
		before := fmt.Sprint(testkit.WholeRules(r))
		callAll(r)
		if after := fmt.Sprint(testkit.WholeRules(r)); after != before {
			t.Errorf("%s: the argument became %s, want %s", c.what, after, before)
		}
	}
}

// results returns the rules that the functions have for equal arguments.
func results(r api.Rules) []api.Rules {
	mirrored, _ := rules.Mirror(r)
	cloned, _ := rules.Clone(r)
	return []api.Rules{mirrored, cloned}
}

// TestP2ResultsAreNew changes results, and looks whether the argument, or results of other calls, have changed with them.
func TestP2ResultsAreNew(t *testing.T) {
	r := testkit.RoomyRules(sample())
	before := fmt.Sprint(testkit.WholeRules(r))
	spoiled, kept := results(r), results(r)
	want := fmt.Sprint(spoiled)
	for _, m := range spoiled {
		testkit.SpoilRules(m)
	}
	if after := fmt.Sprint(testkit.WholeRules(r)); after != before {
		t.Errorf("after a change of the results the argument is %s, want %s", after, before)
	}
	if got := fmt.Sprint(kept); got != want {
		t.Errorf("after a change of the results those of other calls are %s, want %s", got, want)
	}
	if again := fmt.Sprint(results(r)); again != want {
		t.Errorf("after a change of the results equal calls have %s, want %s", again, want)
	}
}

// TestP2ArgumentsAreNotRetained changes the argument after the calls.
func TestP2ArgumentsAreNotRetained(t *testing.T) {
	r := testkit.RoomyRules(sample())
	got := results(r)
	testkit.SpoilRules(r)
	for i, want := range results(sample()) {
		if !equal(got[i], want) {
			t.Errorf("after a change of the argument: %+v, want %+v", got[i], want)
		}
	}
}

// TestP2ResultsAreApart has an argument whose types share their ways: those of the results do not.
func TestP2ResultsAreApart(t *testing.T) {
	r := sample()
	way := api.RuleWay{DX: 1, DY: 1, Most: 1}
	shared := []api.RuleWay{way, way}
	for i := range r.Pieces {
		r.Pieces[i].Ways = shared[:1+i%2]
	}
	for _, m := range results(r) {
		for i := range m.Pieces {
			testkit.Spoil(m.Pieces[i].Ways, api.RuleWay{})
			for j := i + 1; j < len(m.Pieces); j++ {
				if slices.ContainsFunc(m.Pieces[j].Ways, func(w api.RuleWay) bool { return w != way }) {
					t.Errorf("the types %d and %d of the result share memory", i, j)
				}
			}
		}
	}
}

// TestP2Deterministic compares equal calls with others between them.
func TestP2Deterministic(t *testing.T) {
	call := func(w, h int) string {
		r := full(w, h, uint64(w+h))
		first, _ := rules.Last(r, api.First, w-1)
		second, _ := rules.Last(r, api.Second, w-1)
		return fmt.Sprint(rules.Check(r), rules.Name(r.Name), results(r), first, second)
	}
	var before []string
	for _, b := range testkit.Boards() {
		before = append(before, call(b[0], b[1]))
	}
	for i, b := range testkit.Boards() {
		if got := call(b[0], b[1]); got != before[i] {
			t.Errorf("equal calls for a board of %d by %d: %s, then %s", b[0], b[1], before[i], got)
		}
	}
}
