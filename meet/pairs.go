package meet

import (
	"slices"

	"makeweight/api"
	"makeweight/numbering"
	"makeweight/prune"
	"makeweight/spec"
	"makeweight/steps"
)

// A pair is a state of each of two sides.
type pair [2]int

// A side is one of the two things of whose states pairs are made: which sets
// its states accept, and where their actions lead.
type side struct {
	first  int
	accept func(state int) []int
	lead   func(state, action int) int
}

// sideOf returns the side of a trimmed specification, in which Nowhere is a
// state, too. In a join the other side goes on alone from there.
func sideOf(trimmed api.Spec) side {
	gone := api.State{Next: slices.Repeat([]int{steps.Nowhere}, len(trimmed.Actions))}
	at := func(state int) api.State {
		if state == steps.Nowhere {
			return gone
		}
		return trimmed.States[state]
	}
	first := 0
	if len(at(first).Accept) == 0 {
		first = steps.Nowhere // so that a join with None has no pair more
	}
	return side{
		first:  first,
		accept: func(state int) []int { return at(state).Accept },
		lead:   func(state, action int) int { return at(state).Next[action] },
	}
}

// A way is how specifications are put together.
type way struct {
	// ofNone returns what no specifications make.
	ofNone func(actions []string) (api.Spec, api.Errno)
	// accept returns what a pair accepts if its states accept these sets.
	accept func(one, other []int) []int
}

func meeting() way {
	return way{ofNone: spec.All, accept: inBoth}
}

func joining() way {
	return way{ofNone: spec.None, accept: inEither}
}

// of returns what all elements of a list make, one after the other.
func (w way) of(actions []string, l []api.Spec) (api.Spec, api.Errno) {
	if e := check(actions, l); e != api.OK {
		return api.Spec{}, e
	}
	made, e := w.ofNone(actions)
	for _, s := range l {
		if e == api.OK {
			trimmed, _, _ := prune.Trim(s)
			made, e = w.made(actions, sideOf(made), sideOf(trimmed))
		}
	}
	return made, e
}

// check returns ErrSpec if one of the specifications is not valid, ErrActions if
// one of them has other actions.
func check(actions []string, l []api.Spec) api.Errno {
	switch {
	case slices.ContainsFunc(l, func(s api.Spec) bool { return spec.Check(s) != api.OK }):
		return api.ErrSpec
	case slices.ContainsFunc(l, func(s api.Spec) bool { return !slices.Equal(s.Actions, actions) }):
		return api.ErrActions
	}
	return api.OK
}

// made returns the specification of the pairs that can be reached, trimmed:
// ErrLarge if there are too many of them.
func (w way) made(actions []string, one, other side) (api.Spec, api.Errno) {
	s := api.Spec{Actions: actions}
	pairs := numbering.Of(pair{one.first, other.first})
	for i := 0; i < len(pairs.Values); i++ {
		now := pairs.Values[i]
		state := api.State{Accept: w.accept(one.accept(now[0]), other.accept(now[1]))}
		for action := range actions {
			to := steps.Nowhere
			if isIn(state.Accept, action) {
				to = pairs.Number(pair{one.lead(now[0], action), other.lead(now[1], action)})
			}
			state.Next = append(state.Next, to)
		}
		s.States = append(s.States, state)
		if len(pairs.Values) > api.MaxStates {
			return api.Spec{}, api.ErrLarge
		}
	}
	trimmed, _, e := prune.Trim(s)
	return trimmed, e
}

// isIn reports whether an action is in one of the sets.
func isIn(sets []int, action int) bool {
	return slices.ContainsFunc(sets, func(set int) bool { return set>>action&1 == 1 })
}

// inBoth returns the sets that are in both of two lists in order.
func inBoth(one, other []int) []int {
	return slices.DeleteFunc(slices.Clone(one), func(set int) bool {
		_, found := slices.BinarySearch(other, set)
		return !found
	})
}

// inEither returns the sets that are in one of two lists, or in both, in order.
func inEither(one, other []int) []int {
	sets := slices.Concat(one, other)
	slices.Sort(sets)
	return slices.Compact(sets)
}
