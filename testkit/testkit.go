// Package testkit has what the tests of several packages need: to see whether arguments and results share memory, and to have boards, rules, positions and moves of all kinds. The program itself does not use it.
package testkit

import (
	"iter"
	"slices"
	"strconv"

	"gamehall/api"
	"gamehall/place"
)

// Roomy returns a copy of a slice with unused capacity, which is not empty.
func Roomy[T any](l []T, unused T) []T {
	return append(slices.Clone(l), unused, unused, unused)[:len(l)]
}

// Whole returns a copy of a slice together with its unused capacity.
func Whole[T any](l []T) []T {
	return slices.Clone(l[:cap(l)])
}

// Spoil overwrites a slice together with its unused capacity.
func Spoil[T any](l []T, with T) {
	for i := range l[:cap(l)] {
		l[:cap(l)][i] = with
	}
}

// RoomyRules returns a copy of rules whose slices have unused capacity.
func RoomyRules(r api.Rules) api.Rules {
	r.Pieces = Roomy(r.Pieces, api.RulePiece{Letter: 'U'})
	for i := range r.Pieces {
		r.Pieces[i].Ways = Roomy(r.Pieces[i].Ways, api.RuleWay{DX: 77})
	}
	r.Start = Roomy(r.Start, 88)
	r.Ends = Roomy(r.Ends, api.RuleEnd{Count: 99})
	return r
}

// WholeRules returns a copy of rules together with the unused capacity of their slices.
func WholeRules(r api.Rules) api.Rules {
	r.Pieces = Whole(r.Pieces)
	for i := range r.Pieces {
		r.Pieces[i].Ways = Whole(r.Pieces[i].Ways)
	}
	r.Start = Whole(r.Start)
	r.Ends = Whole(r.Ends)
	return r
}

// SpoilRules overwrites all memory of rules.
func SpoilRules(r api.Rules) {
	for _, p := range r.Pieces {
		Spoil(p.Ways, api.RuleWay{DX: -77, DY: -77, Most: -77, Take: -77})
	}
	Spoil(r.Pieces, api.RulePiece{Letter: '?', Hand: -88, Promote: -88})
	Spoil(r.Start, -99)
	Spoil(r.Ends, api.RuleEnd{Kind: -66, Piece: -66, Count: -66})
}

// RuleNumbers returns pointers to all numbers of rules, so that a test can change each of them.
func RuleNumbers(r *api.Rules) []*int {
	l := []*int{&r.Width, &r.Height, &r.Blocked, &r.Quiet, &r.Repeat}
	for i := range r.Pieces {
		p := &r.Pieces[i]
		l = append(l, &p.Hand, &p.Promote)
		for j := range p.Ways {
			w := &p.Ways[j]
			l = append(l, &w.DX, &w.DY, &w.Most, &w.Take)
		}
	}
	for i := range r.Start {
		l = append(l, &r.Start[i])
	}
	for i := range r.Ends {
		l = append(l, &r.Ends[i].Kind, &r.Ends[i].Piece, &r.Ends[i].Count)
	}
	return l
}

// Boards returns the widths and heights of all boards.
func Boards() [][2]int {
	var l [][2]int
	for w := 1; w <= api.MaxSide; w++ {
		for h := 1; h <= api.MaxSide; h++ {
			l = append(l, [2]int{w, h})
		}
	}
	return l
}

// Three returns the rules of three in a row on a board of 3 by 3.
func Three() api.Rules {
	return api.Rules{Name: "TIC", Width: 3, Height: 3, Pieces: []api.RulePiece{{Letter: 'A', Hand: 5}}, Start: make([]int, 9), Ends: []api.RuleEnd{{Kind: api.EndLine, Count: 3}}, Blocked: api.BlockedDraws}
}

// Steps returns the rules of a game in which each player has a piece that steps to and fro without end, or wins by stepping on.
func Steps() api.Rules {
	ways := []api.RuleWay{{DX: 1, Most: 1}, {DX: -1, Most: 1}, {DY: 1, Most: 1}}
	return api.Rules{Name: "STEP", Width: 2, Height: 2, Pieces: []api.RulePiece{{Letter: 'A', Ways: ways}}, Start: []int{1, 0, 2, 0}, Ends: []api.RuleEnd{{Kind: api.EndReach}}, Repeat: 2}
}

// ToAndFro returns the move of Steps after n moves, from 0, if both players step to and fro.
func ToAndFro(n int) api.Move {
	return []api.Move{{From: 0, To: 1}, {From: 2, To: 3}, {From: 1, To: 0}, {From: 3, To: 2}}[n%4]
}

// CampRules are rules as text, with pieces that are put, move, take, change, and are kept. The game ends when a piece is taken, or nothing happens. CampPosition is a position of it as text, in which First can take that piece.
const (
	CampRules = `game CAMP 3 4
piece S 1 G
way 0 1 1 never
way 1 1 1 must
way -1 1 1 must
piece G 0 -
way 1 0 2 may
way -1 0 2 may
way 0 -1 1 may
row sgs
row ...
row ...
row SGS
keeps
end take G 1 wins
blocked draws
quiet 6
repeat 2
`
	CampPosition = "sg1/S1s/1s1/1GS S1 - 1 2"
)

// Rules as text of games that are searched from their beginning. FallRules has few pieces, so that there are few enough sequences of moves to the greatest depth, and PawnRules are those of hexapawn. MostRules has 50000 sequences of at most 12 moves, and MoreRules 50001 of at most 11.
const (
	FallRules = `game FALL 3 2
piece A 1 -
way 1 0 1 may
piece B 1 -
way 1 1 1 must
row ...
row ...
falls
keeps
end line 3 loses
blocked wins
quiet 3
repeat 0
`
	PawnRules = `game HEXAPAWN 3 3
piece P 0 -
way 0 1 1 never
way -1 1 1 must
way 1 1 1 must
row ppp
row ...
row PPP
end reach P wins
blocked loses
quiet 0
repeat 0
`
	MostRules = `game MOST 3 4
piece A 0 -
way -1 1 2 may
way 0 -1 2 may
way 1 1 7 may
row .A.
row ...
row a..
row ...
end take A 1 wins
blocked loses
quiet 0
repeat 0
`
	MoreRules = `game MORE 3 4
piece A 0 -
way -1 0 1 may
way 0 1 7 may
way 1 -1 1 may
way 1 1 2 may
row ...
row ...
row .a.
row .A.
end take A 1 wins
blocked loses
quiet 0
repeat 0
`
)

// AnyRules returns rules that are right. What they say is chosen by choose, which returns a number from 0 to n-1 for each n of at least 1.
func AnyRules(choose func(n int) int) api.Rules {
	from := func(low, high int) int { return low + choose(high-low+1) }
	r := api.Rules{Name: "Q" + strconv.Itoa(choose(10000000)), Width: from(1, api.MaxSide), Height: from(1, api.MaxSide)}
	types := from(1, api.MaxTypes)
	letters := []byte("ABCDEFGHIJKLMNOPQRSTUVWXYZ")
	for range types {
		at := choose(len(letters))
		p := api.RulePiece{Letter: letters[at], Hand: from(0, api.MaxHand), Promote: from(0, types)}
		letters = slices.Delete(letters, at, at+1)
		for range choose(5) {
			p.Ways = append(p.Ways,
				api.RuleWay{DX: from(1, 7), DY: from(-7, 7), Most: from(1, 7), Take: from(api.TakeNever, api.TakeMust)},
				api.RuleWay{DX: from(-7, 7), DY: -from(1, 7), Most: from(1, 7), Take: from(api.TakeNever, api.TakeMust)})
		}
		r.Pieces = append(r.Pieces, p)
	}
	r.Start = anyCells(r, choose)
	r.Falls, r.Keeps = choose(2) == 0, choose(2) == 0
	for range from(0, api.MaxEnds) {
		e := api.RuleEnd{Kind: from(api.EndLine, api.EndTake), Loses: choose(2) == 0}
		if e.Kind != api.EndLine {
			e.Piece = choose(types)
		}
		if e.Kind != api.EndReach {
			e.Count = from(1, 64)
		}
		r.Ends = append(r.Ends, e)
	}
	r.Blocked, r.Quiet = from(api.BlockedLoses, api.BlockedDraws), from(0, api.MaxQuiet)
	if choose(5) > 0 {
		r.Repeat = from(2, api.MaxRepeat)
	}
	return r
}

// SmallRules returns rules of a small board, chosen as by AnyRules, so that there are few moves and positions occur again soon. On about every second board each player has one piece that steps to and fro.
func SmallRules(choose func(n int) int) api.Rules {
	r := api.Rules{Name: "SMALL", Width: 2 + choose(2), Height: 2 + choose(2), Falls: choose(4) == 0, Keeps: choose(2) == 0, Blocked: choose(3)}
	r.Start = make([]int, r.Width*r.Height)
	if choose(2) == 0 {
		r.Pieces = []api.RulePiece{{Letter: 'A', Ways: []api.RuleWay{{DX: 1, Most: 1}, {DX: -1, Most: 1}}}}
		r.Start[choose(r.Width)], r.Start[r.Width+choose(r.Width)] = 1, 2
	} else {
		r.Pieces = []api.RulePiece{stepper('A', choose), stepper('B', choose)}
		for i := range r.Start {
			r.Start[i] = max(0, choose(12)-7)
		}
	}
	if choose(5) > 0 {
		r.Repeat = 2 + choose(4)
	}
	if choose(4) == 0 {
		r.Quiet = 1 + choose(30)
	}
	if choose(3) == 0 {
		r.Ends = []api.RuleEnd{{Kind: api.EndTake, Piece: choose(len(r.Pieces)), Count: 1, Loses: choose(2) == 0}}
	}
	return r
}

// stepper returns a type that moves to squares nearby, and may change into one of two types.
func stepper(letter byte, choose func(n int) int) api.RulePiece {
	p := api.RulePiece{Letter: letter, Hand: choose(2), Promote: choose(3)}
	for _, d := range [][2]int{{1, 0}, {-1, 0}, {0, 1}, {0, -1}, {1, 1}, {-1, 1}, {1, -1}, {-1, -1}} {
		if choose(3) > 0 {
			p.Ways = append(p.Ways, api.RuleWay{DX: d[0], DY: d[1], Most: 1 + choose(2), Take: choose(3)})
		}
	}
	return p
}

// anyCells returns cells of any kind; on about every second board most of them are empty.
func anyCells(r api.Rules, choose func(n int) int) []int {
	cells := make([]int, r.Width*r.Height)
	sparse := choose(2) == 0
	for i := range cells {
		if !sparse || choose(4) == 0 {
			cells[i] = choose(2*len(r.Pieces) + 1)
		}
	}
	return cells
}

// AnyPosition returns a position of a game with rules that are right, chosen as by AnyRules. Empty hands, and numbers at their bounds, occur often.
func AnyPosition(r api.Rules, choose func(n int) int) api.Position {
	p := api.Position{Cells: anyCells(r, choose), Turn: choose(2), Quiet: choose(api.MaxQuiet + 1)}
	for player := range p.Hands {
		p.Hands[player] = make([]int, len(r.Pieces))
		empty := choose(4) == 0
		for kind := range p.Hands[player] {
			if !empty {
				p.Hands[player][kind] = []int{0, 1, choose(api.MaxHand + 1), choose(api.MaxHeld + 1), api.MaxHeld}[choose(5)]
			}
		}
	}
	return p
}

// AnyGame returns rules and a position of their game, chosen as by AnyRules and AnyPosition. In about half of them the steps are short, so that most of them stay on the board, and in some the position is as quiet as can be.
func AnyGame(choose func(n int) int) (api.Rules, api.Position) {
	r := AnyRules(choose)
	if choose(2) == 0 {
		short := []api.RuleWay{{DX: 1}, {DX: -1}, {DY: 1}, {DY: -1}, {DX: 1, DY: 1}, {DX: -1, DY: 1}, {DX: 1, DY: -1}, {DX: -1, DY: -1}, {DX: 2, DY: 1}, {DX: -1, DY: 2}, {DX: -2}, {DY: 2}}
		for _, p := range r.Pieces {
			for i := range p.Ways {
				s := short[choose(len(short))]
				p.Ways[i].DX, p.Ways[i].DY = s.DX, s.DY
			}
		}
	}
	p := AnyPosition(r, choose)
	if choose(4) == 0 {
		p.Quiet = api.MaxQuiet - choose(3)
	}
	return r, p
}

// SmallGame returns a game on a small board, chosen as by SmallRules, and a position of it. In about half of them there are no hands, or one move more or some end the game since they are quiet.
func SmallGame(choose func(n int) int) (api.Rules, api.Position) {
	r := SmallRules(choose)
	p, _ := place.Begin(r)
	p.Turn, p.Quiet = choose(2), max(0, r.Quiet-1-choose(5))
	if choose(3) == 0 {
		p.Hands = [2][]int{make([]int, len(r.Pieces)), make([]int, len(r.Pieces))}
	}
	if choose(3) == 0 {
		r.Ends = append(r.Ends, api.RuleEnd{Kind: api.EndReach, Piece: choose(len(r.Pieces)), Loses: choose(2) == 0})
	}
	return r, p
}

// SearchGame returns a game and a position of it, of which a search to a small depth is worthwhile: about half of them are those of SmallGame, and in many of the others, which are those of AnyGame, conditions are few and no move is taken for quiet, so that they go on.
func SearchGame(choose func(n int) int) (api.Rules, api.Position) {
	if choose(2) == 0 {
		return SmallGame(choose)
	}
	r, p := AnyGame(choose)
	if choose(3) > 0 {
		r.Ends, r.Quiet = r.Ends[:min(len(r.Ends), choose(2))], 0
	}
	return r, p
}

// Candidates returns all moves with squares of a board and types of its pieces, legal or not, ordered by From, then by To, then by Piece.
func Candidates(r api.Rules) []api.Move {
	var l []api.Move
	for from := -1; from < r.Width*r.Height; from++ {
		for to := range r.Width * r.Height {
			for kind := range r.Pieces {
				l = append(l, api.Move{From: from, To: to, Piece: kind})
			}
		}
	}
	return l
}

// MovesOf returns all moves whose numbers are among the values.
func MovesOf(values []int) []api.Move {
	var l []api.Move
	for _, from := range values {
		for _, to := range values {
			for _, kind := range values {
				l = append(l, api.Move{From: from, To: to, Piece: kind})
			}
		}
	}
	return l
}

// RoomyPosition returns a copy of a position whose slices have unused capacity.
func RoomyPosition(p api.Position) api.Position {
	p.Cells = Roomy(p.Cells, 66)
	for player := range p.Hands {
		p.Hands[player] = Roomy(p.Hands[player], 77)
	}
	return p
}

// WholePosition returns a copy of a position together with the unused capacity of its slices.
func WholePosition(p api.Position) api.Position {
	p.Cells = Whole(p.Cells)
	for player := range p.Hands {
		p.Hands[player] = Whole(p.Hands[player])
	}
	return p
}

// SpoilPosition overwrites all memory of a position.
func SpoilPosition(p api.Position) {
	Spoil(p.Cells, -88)
	for _, hand := range p.Hands {
		Spoil(hand, -99)
	}
}

// PositionNumbers returns pointers to all numbers of a position, so that a test can change each of them.
func PositionNumbers(p *api.Position) []*int {
	l := []*int{&p.Turn, &p.Quiet}
	for i := range p.Cells {
		l = append(l, &p.Cells[i])
	}
	for _, hand := range p.Hands {
		for i := range hand {
			l = append(l, &hand[i])
		}
	}
	return l
}

// Changed returns an iterator over copies of rules and a position in which one number is one of the values, and over others in which all numbers are.
func Changed(r api.Rules, p api.Position, values []int) iter.Seq2[api.Rules, api.Position] {
	const all = -1
	return func(yield func(api.Rules, api.Position) bool) {
		spots := len(RuleNumbers(&r)) + len(PositionNumbers(&p))
		for shift := range values {
			for spot := all; spot < spots; spot++ {
				changedRules, changedPosition := RoomyRules(r), RoomyPosition(p)
				for i, n := range append(RuleNumbers(&changedRules), PositionNumbers(&changedPosition)...) {
					if spot == all || spot == i {
						*n = values[(shift+i)%len(values)]
					}
				}
				if !yield(changedRules, changedPosition) {
					return
				}
			}
		}
	}
}

// Stretched returns an iterator over copies of rules and a position in which one list has another length, up to one far beyond all limits. The rules must have a type at least.
func Stretched(r api.Rules, p api.Position) iter.Seq2[api.Rules, api.Position] {
	return func(yield func(api.Rules, api.Position) bool) {
		for _, n := range []int{0, 1, 2, 3, 11, 13, 64, 65, 1 << 12, 1 << 16} {
			for _, stretch := range []func(r *api.Rules, p *api.Position){
				func(r *api.Rules, p *api.Position) { p.Cells = make([]int, n) },
				func(r *api.Rules, p *api.Position) { p.Hands[api.First] = make([]int, n) },
				func(r *api.Rules, p *api.Position) { p.Hands[api.Second] = make([]int, n) },
				func(r *api.Rules, p *api.Position) { r.Start = make([]int, n) },
				func(r *api.Rules, p *api.Position) { r.Pieces = make([]api.RulePiece, n) },
				func(r *api.Rules, p *api.Position) { r.Pieces[0].Ways = slices.Repeat(r.Pieces[0].Ways, n) },
				func(r *api.Rules, p *api.Position) { r.Ends = slices.Repeat(r.Ends, n) },
			} {
				stretchedRules, stretchedPosition := RoomyRules(r), RoomyPosition(p)
				stretch(&stretchedRules, &stretchedPosition)
				if !yield(stretchedRules, stretchedPosition) {
					return
				}
			}
		}
	}
}

// A Wrong is rules and a position of which one is wrong, or both are, and the error that a check of both has.
type Wrong struct {
	Rules    api.Rules
	Position api.Position
	Err      api.Errno
}

// Wrongs returns rules and positions that are wrong in many ways, made from rules with two types and a condition at least and a position of their game.
func Wrongs(r api.Rules, p api.Position) []Wrong {
	var l []Wrong
	for _, ofPosition := range wrongPositions(r, p) {
		l = append(l, Wrong{RoomyRules(r), ofPosition.Position, ofPosition.Err})
	}
	for _, ofRules := range wrongRules(r, p) {
		l = append(l, ofRules)
		// The error of the rules comes first.
		for _, ofPosition := range wrongPositions(r, p) {
			l = append(l, Wrong{RoomyRules(ofRules.Rules), ofPosition.Position, ofRules.Err})
		}
	}
	return l
}

// wrongRules returns rules that are wrong in one way each, with the position as it is.
func wrongRules(r api.Rules, p api.Position) []Wrong {
	var l []Wrong
	add := func(err api.Errno, change func(r *api.Rules)) {
		w := Wrong{RoomyRules(r), RoomyPosition(p), err}
		change(&w.Rules)
		l = append(l, w)
	}
	add(api.ErrName, func(r *api.Rules) { *r = api.Rules{} })
	add(api.ErrName, func(r *api.Rules) { r.Name = "a" })
	add(api.ErrName, func(r *api.Rules) { r.Pieces[1].Letter = 'n' })
	add(api.ErrRange, func(r *api.Rules) { r.Height = api.MaxSide + 1 })
	add(api.ErrNone, func(r *api.Rules) { r.Pieces = nil })
	add(api.ErrLarge, func(r *api.Rules) { r.Pieces = slices.Repeat(r.Pieces, api.MaxTypes) })
	add(api.ErrTwice, func(r *api.Rules) { r.Pieces[1].Letter = r.Pieces[0].Letter })
	add(api.ErrForm, func(r *api.Rules) { r.Start = nil })
	add(api.ErrLarge, func(r *api.Rules) { r.Ends = slices.Repeat(r.Ends, api.MaxEnds+1) })
	add(api.ErrArg, func(r *api.Rules) { r.Ends[0].Kind = api.EndTake + 1 })
	add(api.ErrRange, func(r *api.Rules) { r.Repeat = 1 })
	return l
}

// wrongPositions returns positions that are wrong in one way each, with the rules as they are.
func wrongPositions(r api.Rules, p api.Position) []Wrong {
	var l []Wrong
	add := func(err api.Errno, change func(p *api.Position)) {
		w := Wrong{RoomyRules(r), RoomyPosition(p), err}
		change(&w.Position)
		l = append(l, w)
	}
	types := len(r.Pieces)
	add(api.ErrForm, func(p *api.Position) { *p = api.Position{} })
	add(api.ErrForm, func(p *api.Position) { p.Cells = nil })
	add(api.ErrForm, func(p *api.Position) { p.Cells = p.Cells[1:] })
	add(api.ErrForm, func(p *api.Position) { p.Cells = append(p.Cells, 0) })
	add(api.ErrForm, func(p *api.Position) { p.Hands[api.First] = nil })
	add(api.ErrForm, func(p *api.Position) { p.Hands[api.Second] = p.Hands[api.Second][1:] })
	add(api.ErrForm, func(p *api.Position) { p.Hands[api.First] = append(p.Hands[api.First], 0) })
	add(api.ErrForm, func(p *api.Position) { p.Turn, p.Hands[api.Second] = 2, nil })
	add(api.ErrRange, func(p *api.Position) { p.Cells[0] = 2*types + 1 })
	add(api.ErrRange, func(p *api.Position) { p.Cells[len(p.Cells)-1] = -1 })
	add(api.ErrRange, func(p *api.Position) { p.Hands[api.First][types-1] = api.MaxHeld + 1 })
	add(api.ErrRange, func(p *api.Position) { p.Hands[api.Second][0] = -1 })
	add(api.ErrRange, func(p *api.Position) { p.Turn = -1 })
	add(api.ErrRange, func(p *api.Position) { p.Turn = 2 })
	add(api.ErrRange, func(p *api.Position) { p.Quiet = api.MaxQuiet + 1 })
	return l
}
