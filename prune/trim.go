package prune

import (
	"iter"
	"slices"

	"makeweight/api"
	"makeweight/spec"
	"makeweight/steps"
)

// Trim returns the trimmed specification of s, and for each of its states the
// one of s that it comes from (nothing if s is hollow).
func Trim(s api.Spec) (api.Spec, []int, api.Errno) {
	ladder, e := Ladder(s)
	if e != api.OK {
		return api.Spec{}, nil, e
	}
	if slices.Contains(ladder, 0) {
		none, _ := spec.None(s.Actions)
		return none, nil, api.OK
	}
	states := steps.Without(s.States, ladder)
	numbers := make([]int, len(states))
	var from []int
	for number := range found(states) {
		numbers[number] = len(from)
		from = append(from, number)
	}
	trimmed := api.Spec{Actions: slices.Clone(s.Actions)}
	for _, number := range from {
		steps.Renumber(states[number].Next, numbers)
		trimmed.States = append(trimmed.States, states[number])
	}
	return trimmed, from, api.OK
}

// found yields the states that can be reached, in the order in which they are
// found: state 0 first, then for each the new ones to which its actions lead.
func found(states []api.State) iter.Seq[int] {
	return func(yield func(int) bool) {
		queue := []int{0}
		known := make([]bool, len(states))
		known[0] = true
		for i := 0; i < len(queue); i++ {
			if !yield(queue[i]) {
				return
			}
			for _, to := range states[queue[i]].Next {
				if to != steps.Nowhere && !known[to] {
					known[to] = true
					queue = append(queue, to)
				}
			}
		}
	}
}
