package refine_test

import (
	"slices"
	"testing"

	"makeweight/api"
	"makeweight/refine"
	"makeweight/spec"
	"makeweight/system"
)

// The limits.

// TestRefinesAfterLongWords has rings of 500 and of 499 states: the last states
// of both are met together only after all other pairs.
func TestRefinesAfterLongWords(t *testing.T) {
	const many, fewer = api.MaxStates, api.MaxStates - 1
	s, u := ring(many), ring(fewer)
	for number := range fewer - 1 {
		u.States[number].Accept = sets(0, 1)
	}
	v := checkVerdict(t, couple{s, u}, 0, false)
	if len(v.Proof.Pairs) != many*fewer {
		t.Errorf("%d pairs, want all", len(v.Proof.Pairs))
	}
	s.States[many-1].Accept = sets(0, 1)
	v = checkVerdict(t, couple{s, u}, many*fewer-1, true)
	fault, _ := spec.Satisfies(v.Witness, u)
	if len(fault.Word) != many*fewer-1 {
		t.Errorf("the witness has a fault of length %d", len(fault.Word))
	}
}

// TestRefinesAroundTheLongestWord has faults that are as long as a word may be,
// and those that are a little shorter and longer.
func TestRefinesAroundTheLongestWord(t *testing.T) {
	for _, length := range []int{api.MaxWord - 1, api.MaxWord, api.MaxWord + 1} {
		const long = 401
		s, u := ring(long), ring(api.MaxStates)
		s.States[length%long].Accept = sets(0, 1)
		for number := range u.States {
			if number != length%api.MaxStates {
				u.States[number].Accept = sets(0, 1)
			}
		}
		checkVerdict(t, couple{s, u}, length, true)
	}
}

// twisted returns a specification with all actions, whose states stand in a
// ring, in which each action leads on by another number of steps.
func twisted(states int) api.Spec {
	return full(letters, states, func(state, action int) int { return (state + 1 + action*action*7) % states })
}

func TestRefinesOfLargeSpecifications(t *testing.T) {
	s, u := twisted(api.MaxStates), twisted(api.MaxStates-1)
	v := checkHolds(t, couple{s, u})
	if len(v.Proof.Pairs) != api.MaxStates*(api.MaxStates-1) {
		t.Errorf("%d pairs, want all", len(v.Proof.Pairs))
	}
	checkHolds(t, couple{u, s})
	all, _ := spec.All(s.Actions)
	checkHolds(t, couple{s, all})
	checkHolds(t, couple{all, s})
	// One set of one state is not accepted any more.
	u.States[70].Accept = slices.Delete(u.States[70].Accept, 200, 201)
	checkFails(t, couple{s, u}, 6)
	checkHolds(t, couple{u, s})
}

// TestWitnessesWithManyStates has a fault that comes only after a word that
// does all eight actions in all states, several times. A system must have
// a state for each of these and yet stay small enough.
func TestWitnessesWithManyStates(t *testing.T) {
	s, u := build(letters), build(letters)
	accept := sets(3, 6, 12, 24, 48, 96, 129, 192)
	for number := range api.MaxStates {
		s.States = append(s.States, at(accept, slices.Repeat([]int{(number + 1) % api.MaxStates}, 8)...))
	}
	s.States[api.MaxStates-1].Accept = append(sets(0), accept...)
	// The last state of u is that after another action than the expected one.
	const last = api.MaxStates - 1
	for number := range last {
		state := at(append(sets(0), accept...), slices.Repeat([]int{last}, 8)...)
		state.Next[number%8] = (number + 1) % last
		u.States = append(u.States, state)
	}
	u.States[last-1].Accept = accept
	u.States = append(u.States, at(append(sets(0), accept...), slices.Repeat([]int{last}, 8)...))
	checkFails(t, couple{s, u}, api.MaxStates*last-1)
}

// checkHolds fails the test unless Refines has a proof.
func checkHolds(t *testing.T, c couple) refine.Verdict {
	t.Helper()
	v, e := refine.Refines(c.s, c.t)
	if !v.Holds || e != api.OK {
		t.Errorf("Refines = %v %d, want true", v.Holds, e)
	}
	right(t, "its verdict", c, v, true)
	if n, is, e := refine.Depth(c.s, c.t); n != 0 || is || e != api.OK {
		t.Errorf("Depth = %d %v %d, want 0 false", n, is, e)
	}
	return v
}

// checkFails fails the test unless Refines has a witness whose shortest fault is
// of a length, which Depth says.
func checkFails(t *testing.T, c couple, depth int) {
	t.Helper()
	v, e := refine.Refines(c.s, c.t)
	if v.Holds || e != api.OK || system.Check(v.Witness) != api.OK {
		t.Fatalf("Refines = %v %d, %d states, want false", v.Holds, e, len(v.Witness.States))
	}
	right(t, "its verdict", c, v, true)
	fault, _ := spec.Satisfies(v.Witness, c.t)
	n, is, e := refine.Depth(c.s, c.t)
	if n != depth || len(fault.Word) != depth || !is || e != api.OK {
		t.Errorf("Depth = %d %v %d, and the witness has a fault of length %d, want %d", n, is, e, len(fault.Word), depth)
	}
}

func TestHollowAtTheLimits(t *testing.T) {
	none, _ := spec.None([]string{"a"})
	v := checkVerdict(t, couple{chain(api.MaxStates), none}, 0, false)
	if len(v.Proof.Ladder) != api.MaxStates || len(v.Proof.Pairs) != 0 {
		t.Errorf("a ladder of %d states, and %d pairs", len(v.Proof.Ladder), len(v.Proof.Pairs))
	}
	checkVerdict(t, couple{chain(api.MaxStates), chain(2)}, 0, false)
	checkVerdict(t, couple{ring(api.MaxStates), chain(api.MaxStates)}, api.MaxStates-1, true)
	checkVerdict(t, couple{ring(1), chain(api.MaxStates)}, api.MaxStates-1, true)
	checkEqual(t, couple{chain(api.MaxStates), chain(7)}, true)
	checkEqual(t, couple{ring(api.MaxStates), ring(api.MaxStates - 1)}, true)
	checkEqual(t, couple{ring(api.MaxStates), chain(api.MaxStates)}, false)
}

// TestProofsWithLongLists has lists with far more elements than there are
// states or pairs.
func TestProofsWithLongLists(t *testing.T) {
	c := couple{ring(2), ring(3)}
	v, _ := refine.Refines(c.s, c.t)
	l := slices.Repeat(v.Proof.Pairs, 1<<18)
	proves(t, "many pairs", c, refine.Proof{Pairs: l}, true)
	proves(t, "many pairs, the last one off", c, refine.Proof{Pairs: append(l, [2]int{2, 0})}, false)
	proves(t, "a long ladder", c, refine.Proof{Ladder: make([]int, 1<<20), Pairs: v.Proof.Pairs}, false)
	c = couple{chain(2), ring(1)}
	proves(t, "another long ladder", c, refine.Proof{Ladder: append([]int{1, 0}, make([]int, 1<<20)...)}, false)
	proves(t, "many pairs beside state 0", c, refine.Proof{Ladder: []int{1, 0}, Pairs: make([][2]int, 1<<20)}, false)
}
