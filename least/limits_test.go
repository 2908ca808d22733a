package least_test

import (
	"slices"
	"testing"

	"makeweight/api"
	"makeweight/least"
)

// The limits of the document, and what is just above them.

// numbers returns the numbers below a limit.
func numbers(limit int) []int {
	var l []int
	for number := range limit {
		l = append(l, number)
	}
	return l
}

func TestLeastAtTheLimits(t *testing.T) {
	const most = api.MaxStates
	checkLeast(t, ring(most), ring(1), make([]int, most))
	checkLeast(t, chain(most), none("a"), slices.Repeat([]int{-1}, most))
	// No two states are alike: what tells them apart may be far off.
	for _, s := range []api.Spec{notched(most, most-1), notched(most, 0), notched(most, 77)} {
		checkLeast(t, s, s, numbers(most))
		if classes, e := least.Classes(s); !slices.Equal(classes, numbers(most)) || e != api.OK {
			t.Errorf("Classes of a ring with a notch: %s %d", show(classes), e)
		}
	}
	twice := notched(most, 10)
	twice.States[10+most/2].Accept = sets(0, 1)
	half := numbers(most / 2)
	checkLeast(t, twice, notched(most/2, 10), append(half, half...))
	if classes, e := least.Classes(twice); !slices.Equal(classes, append(half, half...)) || e != api.OK {
		t.Errorf("Classes of a ring with two notches: %s %d", show(classes), e)
	}
	// All are hollow, and are in one class.
	if classes, e := least.Classes(chain(most)); !slices.Equal(classes, make([]int, most)) || e != api.OK {
		t.Errorf("Classes of a chain: %s %d", show(classes), e)
	}
	refused(t, "a ring above the limit", ring(most+1))
	refused(t, "a chain above the limit", chain(most+1))
	refused(t, "a ring with a notch above the limit", notched(most+1, most))
}

// TestLeastOfTheLargest has specifications with all states and all actions, most
// of which accept everything.
func TestLeastOfTheLargest(t *testing.T) {
	s := full(letters, api.MaxStates, func(state, action int) int { return (8*state + action + 1) % api.MaxStates })
	checkLeast(t, s, all(letters), make([]int, api.MaxStates))
	s = full(letters, 60, func(state, action int) int { return (11*state + 7*action*action + 1) % 60 })
	s.States[41].Accept = s.States[41].Accept[:255]
	want, places := leastOf(s)
	b, origin := blown(source(), s, api.MaxStates)
	found := reached(b)
	for state, number := range origin {
		origin[state] = places[number]
		if !found[state] {
			origin[state] = -1
		}
	}
	checkLeast(t, b, want, origin)
	if len(want.States) < 40 {
		t.Errorf("a large one has only %d states", len(want.States))
	}
	// In a ring, whatever is done leads on, and one state cannot do all.
	s = full(letters, api.MaxStates, func(state, _ int) int { return (state + 1) % api.MaxStates })
	s.States[api.MaxStates-1].Accept = s.States[api.MaxStates-1].Accept[:255]
	checkLeast(t, s, s, numbers(api.MaxStates))
	for _, state := range []int{0, 1, api.MaxStates - 1} {
		turned := full(letters, api.MaxStates, func(state, _ int) int { return (state + 1) % api.MaxStates })
		last := &turned.States[api.MaxStates-1-state]
		last.Accept = last.Accept[:255]
		checkFrom(t, s, state, turned)
	}
}

func TestFromAtTheLimits(t *testing.T) {
	s := notched(api.MaxStates, 10)
	for _, state := range []int{0, 1, 9, 10, 11, api.MaxStates - 1} {
		checkFrom(t, s, state, notched(api.MaxStates, (10-state+api.MaxStates)%api.MaxStates))
	}
	if got, e := least.From(s, api.MaxStates); len(got.States) > 0 || e != api.ErrArg {
		t.Errorf("From above the last state: %s %d, want ErrArg", show(got), e)
	}
}

func TestResidualAtTheLimits(t *testing.T) {
	s := notched(77, 10)
	for _, length := range []int{api.MaxWord - 1, api.MaxWord} {
		checkResidual(t, s, make([]int, length), notched(77, (10+77*api.MaxWord-length)%77), true)
	}
	if got, is, e := least.Residual(s, make([]int, api.MaxWord+1)); len(got.States) > 0 || is || e != api.ErrArg {
		t.Errorf("Residual of too long a word: %s %v %d, want ErrArg", show(got), is, e)
	}
	checkResidual(t, chain(3), make([]int, api.MaxWord), api.Spec{}, false)
	checkResidual(t, all(letters), slices.Repeat([]int{7}, api.MaxWord), all(letters), true)
}
