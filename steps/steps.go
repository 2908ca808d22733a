// Package steps has what several layers share of how specifications go on: where
// the sets that a state accepts and words lead, what is left of states without
// those that lead to hollow ones, other numbers for states, and systems that go
// on with a word.
package steps

import (
	"iter"
	"slices"

	"makeweight/api"
)

// Nowhere stands in Next for an action that leads to no state.
const Nowhere = -1

// Leads yields the actions of a set that a state accepts, and where they lead.
func Leads(state api.State, set int) iter.Seq2[int, int] {
	return func(yield func(action, to int) bool) {
		for action, to := range state.Next {
			if set>>action&1 == 1 && !yield(action, to) {
				return
			}
		}
	}
}

// After returns the state of s after the word, which may be longer than others,
// and true; false if there is none.
func After(s api.Spec, word []int) (int, bool) {
	state := 0
	for _, action := range word {
		state = s.States[state].Next[action]
		if state == Nowhere {
			return 0, false
		}
	}
	return state, true
}

// Meets reports whether an action of a set that a state accepts leads to a
// marked state.
func Meets(state api.State, set int, marked []bool) bool {
	for _, to := range Leads(state, set) {
		if marked[to] {
			return true
		}
	}
	return false
}

// Marks returns for each of so many states whether it is in a list of them.
func Marks(states int, l []int) []bool {
	marked := make([]bool, states)
	for _, number := range l {
		marked[number] = true
	}
	return marked
}

// Without returns the states of a specification with only the sets that lead to
// none of the hollow ones, and only the actions that are in one of these sets.
func Without(states []api.State, hollow []int) []api.State {
	marked := Marks(len(states), hollow)
	var left []api.State
	for _, state := range states {
		kept := api.State{Next: slices.Repeat([]int{Nowhere}, len(state.Next))}
		for _, set := range state.Accept {
			if Meets(state, set, marked) {
				continue
			}
			kept.Accept = append(kept.Accept, set)
			for action, to := range Leads(state, set) {
				kept.Next[action] = to
			}
		}
		left = append(left, kept)
	}
	return left
}

// Renumber replaces the states in next, that of a state of a specification, by
// their new numbers.
func Renumber(next, numbers []int) {
	for action, to := range next {
		if to != Nowhere {
			next[action] = numbers[to]
		}
	}
}
