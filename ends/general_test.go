package ends_test

import (
	"fmt"
	"math/rand/v2"
	"slices"
	"testing"

	"gamehall/api"
	"gamehall/ends"
	"gamehall/testkit"
)

// The general rules of the document, as far as they concern package ends. Its results are numbers, so that they share no memory.

// TestP1Numbers needs no conditions: a panic, or a call without an end, fails it.
func TestP1Numbers(t *testing.T) {
	ends.Of(api.Rules{}, api.Position{})
	c := sample()
	for r, p := range testkit.Changed(c.r, c.p, extremes) {
		ends.Of(r, p)
		ends.Of(r, c.p)
		ends.Of(c.r, p)
	}
}

// TestP1Bounds has boards of all sizes with conditions, pieces and numbers at their bounds.
func TestP1Bounds(t *testing.T) {
	hand := slices.Repeat([]int{1000}, 6)
	for _, size := range testkit.Boards() {
		for cell := range 13 {
			for _, e := range []api.RuleEnd{line(1), line(64), reach(0), reach(5), take(0, 64), take(5, 1)} {
				r := board(size[0], size[1], "ABCDEF", e)
				p := api.Position{Cells: slices.Repeat([]int{cell}, len(r.Start)), Hands: [2][]int{hand, hand}, Turn: size[0] % 2, Quiet: 200}
				hold(t, pair{r, p})
			}
		}
	}
}

func TestP1Lists(t *testing.T) {
	c := sample()
	for r, p := range testkit.Stretched(c.r, c.p) {
		ends.Of(r, p)
	}
}

// TestP2ArgumentsStay looks at the unused capacity of the arguments, too.
func TestP2ArgumentsStay(t *testing.T) {
	wholeText := func(c pair) string {
		return fmt.Sprint(testkit.WholeRules(c.r), testkit.WholePosition(c.p))
	}
	wrongRules, wrongPosition := sample(), sample()
	wrongRules.r.Repeat = 1
	wrongPosition.p.Quiet = 201
	for _, c := range append(all(500), wrongRules, wrongPosition) {
		c = pair{testkit.RoomyRules(c.r), testkit.RoomyPosition(c.p)}
		before := wholeText(c)
		ends.Of(c.r, c.p)
		if after := wholeText(c); after != before {
			t.Errorf("the arguments became %s, want %s", after, before)
		}
	}
}

// TestP2Deterministic compares equal calls with others between them. The arguments of the first ones are changed afterwards.
func TestP2Deterministic(t *testing.T) {
	var before []int
	for _, c := range all(500) {
		r, p := testkit.RoomyRules(c.r), testkit.RoomyPosition(c.p)
		result, _ := ends.Of(r, p)
		before = append(before, result)
		testkit.SpoilRules(r)
		testkit.SpoilPosition(p)
	}
	l := all(500)
	for _, i := range rand.New(rand.NewPCG(7, 2)).Perm(len(l)) {
		if got, err := ends.Of(l[i].r, l[i].p); got != before[i] || err != api.OK {
			t.Errorf("equal calls for %+v: %d, then %d, %d", l[i], before[i], got, err)
		}
	}
}
