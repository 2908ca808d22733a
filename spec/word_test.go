package spec_test

import (
	"math"
	"math/rand/v2"
	"testing"

	"makeweight/api"
	"makeweight/spec"
)

// P3.3: After.

func TestAfterOfExamples(t *testing.T) {
	branch := build("a b", at(nil, 1, 2), at(sets(0), 1, 0), at(nil, -1, -1))
	for _, c := range []struct {
		s    api.Spec
		word []int
		want int // -1: there is no state
	}{
		{may(), nil, 0}, {may(), []int{0}, 1}, {may(), []int{0, 1}, 0}, {may(), []int{0, 1, 0}, 1},
		{may(), []int{1}, -1}, {may(), []int{0, 0}, -1}, {may(), []int{0, 0, 1}, -1}, {may(), []int{1, 0, 1, 0}, -1},
		{build("", at(nil)), nil, 0},
		// What is accepted does not matter.
		{branch, []int{0, 0, 0}, 1}, {branch, []int{0, 1, 1}, 2}, {branch, []int{1}, 2}, {branch, []int{1, 0}, -1}, {branch, []int{1, 1}, -1},
		{ring(5), []int{0, 0, 0, 0, 0, 0, 0}, 2},
	} {
		want, there := max(c.want, 0), c.want >= 0
		if state, is, e := spec.After(c.s, c.word); state != want || is != there || e != api.OK {
			t.Errorf("After(%s, %v) = %d %v %d, want %d %v", show(c.s), c.word, state, is, e, want, there)
		}
	}
}

// after returns the state after a list of actions of any length, -1 if there
// is none.
func after(s api.Spec, actions []int) int {
	if len(actions) == 0 {
		return 0
	}
	last := len(actions) - 1
	before := after(s, actions[:last])
	if before < 0 {
		return -1
	}
	return s.States[before].Next[actions[last]]
}

func randomWord(r *rand.Rand, actions, length int) []int {
	var word []int
	for range length {
		if actions > 0 {
			word = append(word, r.IntN(actions))
		}
	}
	return word
}

func TestAfterOfRandomWords(t *testing.T) {
	r := source()
	for _, s := range specs() {
		for length := range 10 {
			word := randomWord(r, len(s.Actions), length)
			want := after(s, word)
			if state, is, e := spec.After(s, word); state != max(want, 0) || is != (want >= 0) || e != api.OK {
				t.Errorf("After(%s, %v) = %d %v %d, want %d", show(s), word, state, is, e, want)
			}
		}
	}
}

func TestAfterOfTheLongestWord(t *testing.T) {
	for _, states := range []int{1, 7, 499, api.MaxStates} {
		if state, is, e := spec.After(ring(states), make([]int, api.MaxWord)); state != api.MaxWord%states || !is || e != api.OK {
			t.Errorf("%d states: %d %v %d", states, state, is, e)
		}
	}
}

func TestAfterRefusesOtherWords(t *testing.T) {
	long := make([]int, api.MaxWord+1)
	for _, c := range []struct {
		s    api.Spec
		word []int
	}{
		{may(), []int{-1}}, {may(), []int{2}}, {may(), []int{8}}, {may(), []int{math.MaxInt}}, {may(), []int{math.MinInt}},
		{may(), []int{0, 1, 2}}, {may(), []int{0, -1, 1}},
		// There is no state ahead of the wrong number.
		{may(), []int{1, 1, 2}}, {may(), []int{1, -1}}, {build("a", at(nil, -1)), long},
		{build("", at(nil)), []int{0}}, {build("", at(nil)), []int{-1}},
		{ring(1), long}, {ring(1), make([]int, 1<<22)}, {build("", at(nil)), long},
	} {
		if state, is, e := spec.After(c.s, c.word); state != 0 || is || e != api.ErrArg {
			t.Errorf("After(%s, %d numbers) = %d %v %d, want ErrArg", show(c.s), len(c.word), state, is, e)
		}
	}
}
