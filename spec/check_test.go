package spec_test

import (
	"slices"
	"strings"
	"testing"

	"makeweight/api"
	"makeweight/spec"
)

// P3.1: Check and Same.

func TestCheckAcceptsSpecifications(t *testing.T) {
	for _, s := range specs() {
		if e := spec.Check(s); e != api.OK {
			t.Errorf("Check(%s) = %d, want OK", show(s), e)
		}
	}
}

func TestCheckAcceptsTheLargestSpecifications(t *testing.T) {
	all, _ := spec.All(strings.Fields(letters))
	for what, s := range map[string]api.Spec{
		"most states":         ring(api.MaxStates),
		"most sets":           build(letters, slices.Repeat(all.States, api.MaxStates)...),
		"longest name":        build(strings.Repeat("x", api.MaxName), at(sets(0, 1), 0)),
		"next of -1":          build("a b", at(nil, -1, -1)),
		"set without it":      build("a b", at(sets(0, 2), -1, 0)),
		"empty accept":        build("a", at(nil, 0)),
		"next without a set":  build("a b", at(sets(1), 0, 0)),
		"next to the last":    build("a", at(nil, 2), at(nil, 1), at(nil, 0)),
		"no actions, one set": build("", at(sets(0))),
	} {
		if e := spec.Check(s); e != api.OK {
			t.Errorf("%s: Check = %d, want OK", what, e)
		}
	}
}

func TestCheckRefusesOtherSpecifications(t *testing.T) {
	for why, s := range badSpecs() {
		if e := spec.Check(s); e != api.ErrSpec {
			t.Errorf("%s: Check = %d, want ErrSpec", why, e)
		}
	}
}

// TestCheckOfSmallSpecifications goes through all states with two sets at most
// and numbers around those that may be there.
func TestCheckOfSmallSpecifications(t *testing.T) {
	accepts := [][]int{nil}
	for x := -1; x <= 5; x++ {
		accepts = append(accepts, sets(x))
		for y := -1; y <= 5; y++ {
			accepts = append(accepts, sets(x, y))
		}
	}
	for _, accept := range accepts {
		for i := range 5 {
			for j := range 5 {
				next := []int{i - 2, j - 2}
				s := build("a b", at(accept, next...), at(nil, -1, -1))
				if e := spec.Check(s); (e == api.OK) != isState(accept, next) || e != api.OK && e != api.ErrSpec {
					t.Errorf("Check(%s) = %d", show(s), e)
				}
			}
		}
	}
}

// isState reports whether a state of a specification with two actions and two
// states is one, by the definition.
func isState(accept, next []int) bool {
	for i, set := range accept {
		if set < 0 || set > 3 || i > 0 && set <= accept[i-1] {
			return false
		}
		for action := range 2 {
			if set>>action%2 == 1 && next[action] == -1 {
				return false
			}
		}
	}
	return min(next[0], next[1]) >= -1 && max(next[0], next[1]) < 2
}

func TestSameOfEqualSpecifications(t *testing.T) {
	for _, s := range specs() {
		if !spec.Same(s, clone(s)) {
			t.Errorf("%s is not the same as its clone", show(s))
		}
	}
	for why, s := range badSpecs() {
		if !spec.Same(s, clone(s)) {
			t.Errorf("%s: not the same as its clone", why)
		}
	}
}

func TestSameTakesNilForEmpty(t *testing.T) {
	s := api.Spec{Actions: []string{}, States: []api.State{{Accept: []int{}}, {Next: []int{}}}}
	u := api.Spec{States: []api.State{{Next: []int{}}, {Accept: []int{}}}}
	if !spec.Same(s, u) || !spec.Same(u, s) {
		t.Error("empty slices differ from nil ones")
	}
	if !spec.Same(api.Spec{}, api.Spec{Actions: []string{}, States: []api.State{}}) {
		t.Error("specifications of nothing differ")
	}
}

func TestSameOfOtherSpecifications(t *testing.T) {
	s := build("coin tea", at(sets(0, 1), 1, 0), at(sets(2), -1, 0))
	for why, u := range map[string]api.Spec{
		"nothing":         {},
		"other name":      build("coin Tea", at(sets(0, 1), 1, 0), at(sets(2), -1, 0)),
		"other order":     build("tea coin", at(sets(0, 1), 1, 0), at(sets(2), -1, 0)),
		"more actions":    build("coin tea milk", at(sets(0, 1), 1, 0), at(sets(2), -1, 0)),
		"fewer actions":   build("coin", at(sets(0, 1), 1, 0), at(sets(2), -1, 0)),
		"more states":     build("coin tea", at(sets(0, 1), 1, 0), at(sets(2), -1, 0), at(nil, -1, -1)),
		"fewer states":    build("coin tea", at(sets(0, 1), 1, 0)),
		"no states":       build("coin tea"),
		"states swapped":  build("coin tea", at(sets(2), -1, 0), at(sets(0, 1), 1, 0)),
		"other set":       build("coin tea", at(sets(0, 2), 1, 0), at(sets(2), -1, 0)),
		"set more":        build("coin tea", at(sets(0, 1, 3), 1, 0), at(sets(2), -1, 0)),
		"set less":        build("coin tea", at(sets(0, 1), 1, 0), at(nil, -1, 0)),
		"sets turned":     build("coin tea", at(sets(1, 0), 1, 0), at(sets(2), -1, 0)),
		"other next":      build("coin tea", at(sets(0, 1), 1, 0), at(sets(2), -1, 1)),
		"next nowhere":    build("coin tea", at(sets(0, 1), 1, -1), at(sets(2), -1, 0)),
		"next more":       build("coin tea", at(sets(0, 1), 1, 0), at(sets(2), -1, 0, 0)),
		"next less":       build("coin tea", at(sets(0, 1), 1), at(sets(2), -1, 0)),
		"parts exchanged": build("coin tea", at(sets(1, 0), 0, 1), at(sets(-1, 0), 2)),
	} {
		if spec.Same(s, u) || spec.Same(u, s) {
			t.Errorf("%s: the same", why)
		}
	}
	// Specifications that say the same are not the same for that.
	if spec.Same(ring(1), ring(2)) {
		t.Error("rings of different lengths are the same")
	}
}
