package prune_test

import (
	"math"
	"slices"
	"testing"

	"makeweight/api"
	"makeweight/prune"
)

// P4.1: Hollow, Ladder and IsLadder.

func TestHollowOfExamples(t *testing.T) {
	for text, want := range map[string][]int{
		// Example 1 of the chapter.
		"spec a b;0: {a} {b} -> a 1 b 0;1: ->": {1},
		// A state that accepts nothing, also if actions lead on from it.
		"spec;0: ->": {0}, "spec;0: {} ->": nil, "spec a;0: -> a 0": {0}, "spec a;0: -> a 1;1: {} ->": {0}, "spec;0: {} ->;1: ->": {1},
		// A ring of states is not hollow: a system goes round in it.
		"spec a;0: {a} -> a 0": nil, "spec a;0: {a} -> a 1;1: {a} -> a 2;2: {a} -> a 0": nil,
		// Two rings with a way out of one of them to a hollow state.
		"spec a b;0: {a,b} -> a 0 b 1;1: {b} -> b 2;2: ->":     {0, 1, 2},
		"spec a b;0: {a} {a,b} -> a 0 b 1;1: {b} -> b 2;2: ->": {1, 2},
		// What is allowed to be left out does not make a state hollow.
		"spec a;0: {} {a} -> a 1;1: ->": {1}, "spec a;0: {} -> a 1;1: ->": {1},
		// All sets must contain an action to a hollow state, be it another one.
		"spec a b;0: {a} {b} -> a 1 b 1;1: ->": {0, 1}, "spec a b;0: {a} {b} -> a 1 b 2;1: ->;2: ->": {0, 1, 2},
		"spec a b;0: {a,b} -> a 1 b 2;1: ->;2: {} ->": {0, 1}, "spec a b;0: {a,b} -> a 2 b 1;1: ->;2: {} ->": {0, 1},
		"spec a b;0: {a,b} -> a 1 b 1;1: ->": {0, 1}, "spec a b;0: {b} {a,b} -> a 1 b 2;1: ->;2: {} ->": {1},
		"spec a b;0: {} {a,b} -> a 1 b 1;1: ->": {1}, "spec a b;0: {a} {b} {a,b} -> a 1 b 2;1: ->;2: {} ->": {1},
		// States that cannot be reached may be hollow, too.
		"spec a;0: {} ->;1: {a} -> a 2;2: ->": {1, 2}, "spec a;0: {} ->;1: {a} -> a 0;2: {a} -> a 3;3: ->": {2, 3},
		// Example 1 of DOC.md.
		"spec coin tea;0: {coin} -> coin 1;1: {} {tea} -> tea 0": nil,
	} {
		checkHollow(t, of(text), want)
	}
}

// checkHollow fails the test unless Hollow returns the states, and Ladder a
// ladder of them.
func checkHollow(t *testing.T, s api.Spec, want []int) {
	t.Helper()
	if l, e := prune.Hollow(s); !slices.Equal(l, want) || e != api.OK {
		t.Errorf("Hollow(%s) = %v %d, want %v", show(s), l, e, want)
	}
	l, e := prune.Ladder(s)
	if e != api.OK || !isLadder(s, l) || !slices.Equal(slices.Sorted(slices.Values(l)), want) {
		t.Errorf("Ladder(%s) = %v %d, want a ladder of %v", show(s), l, e, want)
	}
	if is, e := prune.IsLadder(s, l); !is || e != api.OK {
		t.Errorf("IsLadder(%s, %v) = %v %d, want true", show(s), l, is, e)
	}
}

// isLadder reports whether l is a ladder of s, by the definition.
func isLadder(s api.Spec, l []int) bool {
	earlier := make([]bool, len(s.States))
	for _, number := range l {
		if number < 0 || number >= len(s.States) || earlier[number] {
			return false
		}
		state := s.States[number]
		if slices.ContainsFunc(state.Accept, func(set int) bool { return canLead(state, set, earlier) }) {
			return false
		}
		earlier[number] = true
	}
	return true
}

func TestHollowOfRandomSpecifications(t *testing.T) {
	hollow := 0
	for _, s := range specs() {
		want := numbers(hollowOf(s))
		checkHollow(t, s, want)
		if len(want) > 1 && len(want) < len(s.States) {
			hollow++
		}
	}
	if hollow < 50 {
		t.Errorf("some states of only %d specifications are hollow", hollow)
	}
}

// TestHollowStatesHaveNoImplementation tries for each state all systems that
// have a state for each one of the specification, which offers an accepted set.
// (If any system satisfies a specification, one of these does.)
func TestHollowStatesHaveNoImplementation(t *testing.T) {
	for _, s := range small() {
		var want []int
		for first := range s.States {
			if !hasImplementation(t, s, first) {
				want = append(want, first)
			}
		}
		checkHollow(t, s, want)
	}
}

// hasImplementation reports whether some system satisfies s with another first
// state.
func hasImplementation(t *testing.T, s api.Spec, first int) bool {
	turn := func(state int) int {
		switch state {
		case 0:
			return first
		case first:
			return 0
		}
		return state
	}
	turned := clone(s)
	for number := range s.States {
		state := turned.States[number]
		for action, to := range state.Next {
			state.Next[action] = turn(to)
		}
	}
	turned.States[0], turned.States[first] = turned.States[first], turned.States[0]
	m := api.System{Actions: s.Actions, States: make([][]api.Edge, len(s.States))}
	return anyFrom(t, turned, m, 0)
}

// anyFrom reports whether m satisfies s if the states behind so many of them
// offer some accepted sets.
func anyFrom(t *testing.T, s api.Spec, m api.System, done int) bool {
	if done == len(s.States) {
		return satisfies(t, m, s)
	}
	state := s.States[done]
	for _, set := range state.Accept {
		m.States[done] = nil
		for action, to := range state.Next {
			if has(set, action) {
				m.States[done] = append(m.States[done], api.Edge{Action: action, To: to})
			}
		}
		if anyFrom(t, s, m, done+1) {
			return true
		}
	}
	if len(state.Accept) == 0 {
		m.States[done] = nil
		return anyFrom(t, s, m, done+1)
	}
	return false
}

func TestHollowAtTheLimits(t *testing.T) {
	all := make([]int, api.MaxStates)
	for state := range all {
		all[state] = state
	}
	checkHollow(t, chain(api.MaxStates), all)
	checkHollow(t, ring(api.MaxStates), nil)
	checkHollow(t, large(), nil)
	// Only what leads to the last state without any choice is hollow.
	s := large()
	s.States[api.MaxStates-1].Accept = nil
	checkHollow(t, s, all[api.MaxStates-1:])
	// Without the choice to offer nothing all states are hollow.
	s = full(letters, api.MaxStates, func(state, action int) int { return min(state+1, api.MaxStates-1) })
	for number := range s.States {
		s.States[number].Accept = s.States[number].Accept[1:]
	}
	s.States[api.MaxStates-1].Accept = nil
	checkHollow(t, s, all)
	refused(t, "a ring above the limit", ring(api.MaxStates+1))
}

func TestLaddersOfExamples(t *testing.T) {
	// State 1 accepts nothing; state 0 must lead to it, and state 2 to any of
	// both; state 3 is not hollow.
	s := of("spec a b;0: {a} -> a 1;1: ->;2: {a} {b} -> a 0 b 1;3: {} {a} -> a 0")
	for _, l := range [][]int{nil, {}, {1}, {1, 0}, {1, 0, 2}} {
		if is, e := prune.IsLadder(s, l); !is || e != api.OK {
			t.Errorf("IsLadder of %v = %v %d, want true", l, is, e)
		}
	}
	for why, l := range map[string][]int{
		"what it needs comes later": {0, 1}, "it needs both": {1, 2, 0}, "it needs both, one is missing": {1, 2}, "what it needs is missing": {0},
		"not hollow": {3}, "not hollow, behind what is": {1, 0, 2, 3}, "repeated": {1, 1}, "repeated later": {1, 0, 2, 1}, "repeated at the end": {1, 0, 0},
		"negative": {-1}, "negative, later": {1, -1}, "far below": {1, 0, math.MinInt}, "no state": {4}, "no state, later": {1, 0, 2, 4},
		"far off": {math.MaxInt, 1}, "far off, later": {1, math.MaxInt}, "all hollow, but turned": {2, 0, 1},
	} {
		if is, e := prune.IsLadder(s, l); is || e != api.OK {
			t.Errorf("%s: IsLadder of %v = %v %d, want false", why, l, is, e)
		}
	}
}

// TestHollowStatesMayStandInSeveralLadders gives the same states in two orders.
func TestHollowStatesMayStandInSeveralLadders(t *testing.T) {
	s := of("spec a;0: {a} -> a 2;1: ->;2: ->")
	for _, c := range []struct {
		l    []int
		want bool
	}{
		{[]int{1, 2, 0}, true}, {[]int{2, 1, 0}, true}, {[]int{2, 0, 1}, true}, {[]int{1, 0, 2}, false}, {[]int{0, 2, 1}, false}, {[]int{2, 0}, true}, {[]int{1, 0}, false},
	} {
		if is, e := prune.IsLadder(s, c.l); is != c.want || e != api.OK {
			t.Errorf("IsLadder of %v = %v %d, want %v", c.l, is, e, c.want)
		}
	}
}

// TestRingsAreNoLadders has states that need each other.
func TestRingsAreNoLadders(t *testing.T) {
	s := of("spec a;0: {a} -> a 1;1: {a} -> a 0;2: {a} -> a 2")
	for _, l := range [][]int{{0}, {1}, {0, 1}, {1, 0}, {2}, {0, 1, 2}} {
		if is, e := prune.IsLadder(s, l); is || e != api.OK {
			t.Errorf("IsLadder of %v = %v %d, want false", l, is, e)
		}
	}
}

// TestAllShortLists holds IsLadder against the definition.
func TestAllShortLists(t *testing.T) {
	ladders := 0
	for _, s := range small() {
		for length := range 4 {
			for _, l := range words(len(s.States)+2, length) {
				for i := range l {
					l[i]--
				}
				is, e := prune.IsLadder(s, l)
				if is != isLadder(s, l) || e != api.OK {
					t.Errorf("IsLadder(%s, %v) = %v %d", show(s), l, is, e)
				}
				if is && length > 1 {
					ladders++
				}
			}
		}
	}
	if ladders < 200 {
		t.Errorf("only %d ladders of several states", ladders)
	}
}

func TestIsLadderOfLongLists(t *testing.T) {
	s := chain(api.MaxStates)
	l, _ := prune.Ladder(s)
	for why, list := range map[string][]int{
		"one more":          append(slices.Clone(l), 0),
		"twice":             slices.Repeat(l, 2),
		"far too long":      slices.Repeat([]int{api.MaxStates - 1}, 1<<20),
		"first one missing": l[1:],
		"one missing":       slices.Delete(slices.Clone(l), 250, 251),
		"turned":            reversed(l),
	} {
		if is, e := prune.IsLadder(s, list); is || e != api.OK {
			t.Errorf("%s: IsLadder = %v %d, want false", why, is, e)
		}
	}
	if is, e := prune.IsLadder(s, l[:api.MaxStates-1]); !is || e != api.OK {
		t.Errorf("without the last one: IsLadder = %v %d, want true", is, e)
	}
}

func reversed(l []int) []int {
	l = slices.Clone(l)
	slices.Reverse(l)
	return l
}
