// Package testkit has what the tests of several packages need to see whether arguments and results share memory. The program itself does not use it.
package testkit

import (
	"slices"

	"gamehall/api"
)

// Roomy returns a copy of a slice with unused capacity, which is not empty.
func Roomy[T any](l []T, unused T) []T {
	return append(slices.Clone(l), unused, unused, unused)[:len(l)]
}

// Whole returns a copy of a slice together with its unused capacity.
func Whole[T any](l []T) []T {
	return slices.Clone(l[:cap(l)])
}

// Spoil overwrites a slice together with its unused capacity.
func Spoil[T any](l []T, with T) {
	for i := range l[:cap(l)] {
		l[:cap(l)][i] = with
	}
}

// RoomyRules returns a copy of rules whose slices have unused capacity.
func RoomyRules(r api.Rules) api.Rules {
	r.Pieces = Roomy(r.Pieces, api.RulePiece{Letter: 'U'})
	for i := range r.Pieces {
		r.Pieces[i].Ways = Roomy(r.Pieces[i].Ways, api.RuleWay{DX: 77})
	}
	r.Start = Roomy(r.Start, 88)
	r.Ends = Roomy(r.Ends, api.RuleEnd{Count: 99})
	return r
}

// WholeRules returns a copy of rules together with the unused capacity of their slices.
func WholeRules(r api.Rules) api.Rules {
	r.Pieces = Whole(r.Pieces)
	for i := range r.Pieces {
		r.Pieces[i].Ways = Whole(r.Pieces[i].Ways)
	}
	r.Start = Whole(r.Start)
	r.Ends = Whole(r.Ends)
	return r
}

// SpoilRules overwrites all memory of rules.
func SpoilRules(r api.Rules) {
	for _, p := range r.Pieces {
		Spoil(p.Ways, api.RuleWay{DX: -77, DY: -77, Most: -77, Take: -77})
	}
	Spoil(r.Pieces, api.RulePiece{Letter: '?', Hand: -88, Promote: -88})
	Spoil(r.Start, -99)
	Spoil(r.Ends, api.RuleEnd{Kind: -66, Piece: -66, Count: -66})
}

// RuleNumbers returns pointers to all numbers of rules, so that a test can change each of them.
func RuleNumbers(r *api.Rules) []*int {
	l := []*int{&r.Width, &r.Height, &r.Blocked, &r.Quiet, &r.Repeat}
	for i := range r.Pieces {
		p := &r.Pieces[i]
		l = append(l, &p.Hand, &p.Promote)
		for j := range p.Ways {
			w := &p.Ways[j]
			l = append(l, &w.DX, &w.DY, &w.Most, &w.Take)
		}
	}
	for i := range r.Start {
		l = append(l, &r.Start[i])
	}
	for i := range r.Ends {
		l = append(l, &r.Ends[i].Kind, &r.Ends[i].Piece, &r.Ends[i].Count)
	}
	return l
}
