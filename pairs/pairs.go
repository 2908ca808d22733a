// Package pairs makes specifications whose states are pairs, as several layers
// do to put two specifications, or other things, together.
package pairs

import (
	"slices"

	"makeweight/api"
	"makeweight/numbering"
	"makeweight/prune"
	"makeweight/spec"
	"makeweight/steps"
)

// A pair is a state of each of two sides.
type pair [2]int

// A Side is one of the two things of whose states pairs are made: which sets
// its states accept, in order, and where their actions lead.
type Side struct {
	First  int
	Accept func(state int) []int
	Lead   func(state, action int) int
}

// Of returns the side of a trimmed specification. Nowhere is a state of it, too,
// which accepts nothing: where pairs accept what one side alone accepts, that one
// goes on alone.
func Of(trimmed api.Spec) Side {
	gone := api.State{Next: slices.Repeat([]int{steps.Nowhere}, len(trimmed.Actions))}
	at := func(state int) api.State {
		if state == steps.Nowhere {
			return gone
		}
		return trimmed.States[state]
	}
	first := 0
	if len(at(first).Accept) == 0 {
		first = steps.Nowhere // so that a join with None has no pair more
	}
	return Side{
		First:  first,
		Accept: func(state int) []int { return at(state).Accept },
		Lead:   func(state, action int) int { return at(state).Next[action] },
	}
}

// A Way is how specifications are put together.
type Way struct {
	// OfNone returns what no specifications make: ErrActions if the list is
	// not one of actions.
	OfNone func(actions []string) (api.Spec, api.Errno)
	// Accept returns what a pair accepts, in order, if its states accept
	// these sets.
	Accept func(one, other []int) []int
}

// Fold returns what all elements of a list make, one after the other: ErrSpec
// if one of them is not valid, ErrActions if the list of actions is not one, or
// not that of an element, ErrLarge if there are too many pairs.
func (w Way) Fold(actions []string, l []api.Spec) (api.Spec, api.Errno) {
	if e := Check(actions, l...); e != api.OK {
		return api.Spec{}, e
	}
	made, e := w.OfNone(actions)
	add := func(s api.Spec) {
		trimmed, _, _ := prune.Trim(s)
		made, e = w.Make(actions, Of(made), Of(trimmed))
	}
	for i := 0; i < len(l) && e == api.OK; i++ {
		add(l[i])
	}
	return made, e
}

// Check returns ErrSpec if one of the specifications is not valid, ErrActions if
// one of them has other actions.
func Check(actions []string, l ...api.Spec) api.Errno {
	switch {
	case slices.ContainsFunc(l, func(s api.Spec) bool { return spec.Check(s) != api.OK }):
		return api.ErrSpec
	case slices.ContainsFunc(l, func(s api.Spec) bool { return !slices.Equal(s.Actions, actions) }):
		return api.ErrActions
	}
	return api.OK
}

// Make returns the specification of the pairs that can be reached, trimmed:
// ErrLarge if there are too many of them.
func (w Way) Make(actions []string, one, other Side) (api.Spec, api.Errno) {
	s := api.Spec{Actions: actions}
	found := numbering.Of(pair{one.First, other.First})
	for i := 0; i < len(found.Values); i++ {
		now := found.Values[i]
		state := api.State{Accept: w.Accept(one.Accept(now[0]), other.Accept(now[1]))}
		for action := range actions {
			to := steps.Nowhere
			if isIn(state.Accept, action) {
				to = found.Number(pair{one.Lead(now[0], action), other.Lead(now[1], action)})
			}
			state.Next = append(state.Next, to)
		}
		s.States = append(s.States, state)
		if len(found.Values) > api.MaxStates {
			return api.Spec{}, api.ErrLarge
		}
	}
	trimmed, _, e := prune.Trim(s)
	return trimmed, e
}

// isIn reports whether an action is in one of the sets.
func isIn(sets []int, action int) bool {
	return slices.ContainsFunc(sets, func(set int) bool { return set>>action&1 == 1 })
}
