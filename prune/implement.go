package prune

import (
	"slices"

	"makeweight/api"
	"makeweight/spec"
	"makeweight/steps"
	"makeweight/terms"
)

// maxSteps is the greatest number of actions of the words that Words returns.
const maxSteps = 4

// Some returns a system that satisfies s: ErrNone if s is hollow.
func Some(s api.Spec) (api.System, api.Errno) {
	trimmed, _, e := Trim(s)
	if e != api.OK {
		return api.System{}, e
	}
	if isNone(trimmed) {
		return api.System{}, api.ErrNone
	}
	return steps.Along(trimmed, nil, trimmed.States[0].Accept[0]), api.OK
}

// With returns a system that satisfies s and has, after the word, a state that
// offers the set: ErrArg if the word is not one of the actions of s or the set
// not one of them, ErrNone if there is no such system.
func With(s api.Spec, word []int, set int) (api.System, api.Errno) {
	_, _, e := spec.After(s, word)
	if e != api.OK {
		return api.System{}, e
	}
	if !terms.IsSet(set, len(s.Actions)) {
		return api.System{}, api.ErrArg
	}
	trimmed, _, _ := Trim(s)
	state, there, _ := spec.After(trimmed, word)
	if !there || !slices.Contains(trimmed.States[state].Accept, set) {
		return api.System{}, api.ErrNone
	}
	return steps.Along(trimmed, word, set), api.OK
}

// Words returns the words of n actions after which some system that satisfies s
// has a state, in lexicographic order: ErrArg if n is not from 0 to 4.
func Words(s api.Spec, n int) ([][]int, api.Errno) {
	trimmed, _, e := Trim(s)
	if e != api.OK {
		return nil, e
	}
	if n < 0 || n > maxSteps {
		return nil, api.ErrArg
	}
	if isNone(trimmed) {
		return nil, api.OK
	}
	return wordsFrom(trimmed, 0, n), api.OK
}

// isNone reports whether a trimmed specification is None: the states of other
// ones accept something.
func isNone(trimmed api.Spec) bool {
	return len(trimmed.States[0].Accept) == 0
}

// wordsFrom returns the words of n actions that lead on from a state.
func wordsFrom(s api.Spec, state, n int) [][]int {
	if n == 0 {
		return [][]int{nil}
	}
	var words [][]int
	for action, to := range s.States[state].Next {
		if to == steps.Nowhere {
			continue
		}
		for _, rest := range wordsFrom(s, to, n-1) {
			words = append(words, append([]int{action}, rest...))
		}
	}
	return words
}
