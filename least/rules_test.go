package least_test

import (
	"fmt"
	"math"
	"slices"
	"testing"

	"makeweight/api"
	"makeweight/least"
)

// calls calls all functions, and returns their results as strings, and their
// errors.
func calls(s api.Spec, state int, word []int) (map[string]string, map[string]api.Errno) {
	results, errors := map[string]string{}, map[string]api.Errno{}
	add := func(name string, e api.Errno, l ...any) {
		results[name], errors[name] = fmt.Sprint(l...), e
	}
	classes, e := least.Classes(s)
	add("Classes", e, classes)
	l, places, e := least.Least(s)
	add("Least", e, l, places)
	is, e := least.Is(s)
	add("Is", e, is)
	l, e = least.From(s, state)
	add("From", e, l)
	l, is, e = least.Residual(s, word)
	add("Residual", e, l, is)
	return results, errors
}

// zeros are the results of calls with an error, as calls returns them.
func zeros() map[string]string {
	return map[string]string{"Classes": "[]", "Least": "{[] []} []", "Is": "false", "From": "{[] []}", "Residual": "{[] []} false"}
}

// refused fails the test unless all calls refuse a specification, whatever the
// other arguments are, and return zeros.
func refused(t *testing.T, why string, s api.Spec) {
	t.Helper()
	for _, state := range []int{0, 1, -1, len(s.States), math.MaxInt, math.MinInt} {
		for _, word := range [][]int{nil, {0}, {state}, make([]int, api.MaxWord+1)} {
			results, errors := calls(s, state, word)
			for name, zero := range zeros() {
				if results[name] != zero || errors[name] != api.ErrSpec {
					t.Errorf("%s: %s = %.100s %d, want %s ErrSpec", why, name, results[name], errors[name], zero)
				}
			}
		}
	}
}

// P1, R1, R2 and R4: which error comes first.

func TestErrSpecFirst(t *testing.T) {
	for why, s := range badSpecs() {
		refused(t, why, s)
	}
}

// R5: memory.

// roomy returns a list that is equal to l, with room behind it that holds x.
func roomy[E any](l []E, x E) []E {
	return append(slices.Clone(l), x)[:len(l)]
}

// isKept reports whether the room behind a list that roomy returned holds x.
func isKept[E comparable](l []E, x E) bool {
	return l[:len(l)+1][len(l)] == x
}

func roomySpec(s api.Spec) api.Spec {
	c := api.Spec{Actions: roomy(s.Actions, "room"), States: roomy(s.States, api.State{})}
	for number, state := range c.States {
		c.States[number] = api.State{Accept: roomy(state.Accept, 77), Next: roomy(state.Next, 77)}
	}
	return c
}

func isKeptSpec(s api.Spec) bool {
	behind := s.States[:len(s.States)+1][len(s.States)]
	return isKept(s.Actions, "room") && len(behind.Accept)+len(behind.Next) == 0 && !slices.ContainsFunc(s.States, func(state api.State) bool {
		return !isKept(state.Accept, 77) || !isKept(state.Next, 77)
	})
}

// someWord returns a word of s after which there is a state.
func someWord(s api.Spec) []int {
	for action, to := range s.States[0].Next {
		if to >= 0 {
			return []int{action}
		}
	}
	return nil
}

func TestArgumentsAreNotModified(t *testing.T) {
	for _, s := range specs() {
		for state := range s.States {
			held, word := roomySpec(s), roomy(someWord(s), 77)
			before := fmt.Sprint(held, word)
			calls(held, state, word)
			if after := fmt.Sprint(held, word); after != before {
				t.Errorf("%s became %s", before, after)
			}
			if !isKeptSpec(held) || !isKept(word, 77) {
				t.Errorf("%s: something was written behind the arguments", before)
			}
		}
	}
}

// spoil writes into all memory of a list, also into what is behind it.
func spoil[E any](l []E, x E) {
	l = l[:cap(l)]
	for i := range l {
		l[i] = x
	}
}

func spoilSpec(s api.Spec) {
	for _, state := range s.States {
		spoil(state.Accept, 55)
		spoil(state.Next, 55)
	}
	spoil(s.States, api.State{})
	spoil(s.Actions, "spoilt")
}

// A part is a list of a result: what it holds, and what spoils it.
type part struct {
	text  func() string
	spoil func()
}

func partOf[E any](l []E, x E) part {
	return part{func() string { return fmt.Sprint(l) }, func() { spoil(l, x) }}
}

func partsOf(s api.Spec) []part {
	l := []part{partOf(s.Actions, "spoilt")}
	for _, state := range s.States {
		l = append(l, partOf(state.Accept, 55), partOf(state.Next, 55))
	}
	return l
}

// parts makes all results, and returns their parts.
func parts(s api.Spec, state int, word []int) []part {
	classes, _ := least.Classes(s)
	l, places, _ := least.Least(s)
	from, _ := least.From(s, state)
	rest, _, _ := least.Residual(s, word)
	return slices.Concat([]part{partOf(classes, 55), partOf(places, 55)}, partsOf(l), partsOf(from), partsOf(rest))
}

func texts(l []part) []string {
	var texts []string
	for _, p := range l {
		texts = append(texts, p.text())
	}
	return texts
}

// TestResultsAreNewMemory spoils each part of a result, and finds the arguments,
// the other parts, and later results as they were.
func TestResultsAreNewMemory(t *testing.T) {
	for _, s := range specs()[:400] {
		word := someWord(s)
		state := len(s.States) - 1
		before := fmt.Sprint(s, word)
		want := texts(parts(s, state, word))
		for i := range want {
			l := parts(s, state, word)
			l[i].spoil()
			got := texts(l)
			got[i] = want[i]
			if !slices.Equal(got, want) || !slices.Equal(texts(parts(s, state, word)), want) {
				t.Errorf("%s: part %d shares memory", before, i)
			}
			if after := fmt.Sprint(s, word); after != before {
				t.Errorf("%s became %s with part %d", before, after, i)
			}
		}
		l := parts(s, state, word)
		spoilSpec(s)
		spoil(word, 55)
		if !slices.Equal(texts(l), want) {
			t.Errorf("%s: %s became %s with them", before, want, texts(l))
		}
	}
}

// TestListsOfStatesAreNewMemory spoils those of the states of a result.
func TestListsOfStatesAreNewMemory(t *testing.T) {
	for _, s := range specs() {
		word := someWord(s)
		before := fmt.Sprint(s)
		l, _, _ := least.Least(s)
		from, _ := least.From(s, 0)
		rest, _, _ := least.Residual(s, word)
		want := fmt.Sprint(from, rest)
		spoil(l.States, api.State{})
		if got := fmt.Sprint(from, rest); got != want || fmt.Sprint(s) != before {
			t.Errorf("%s: %s became %s", before, want, got)
		}
		want = fmt.Sprint(rest)
		spoil(from.States, api.State{})
		if got := fmt.Sprint(rest); got != want || fmt.Sprint(s) != before {
			t.Errorf("%s: %s became %s", before, want, got)
		}
		spoil(rest.States, api.State{})
		if fmt.Sprint(s) != before {
			t.Errorf("%s became %s", before, show(s))
		}
	}
}

// R8: the same arguments give the same results.

func TestSameArgumentsSameResults(t *testing.T) {
	for _, s := range specs() {
		state, word := len(s.States)-1, someWord(s)
		first, errors := calls(s, state, word)
		for range 3 {
			calls(ring(3), 1, []int{0})
			again, others := calls(roomySpec(s), state, roomy(word, 77))
			if fmt.Sprint(first, errors) != fmt.Sprint(again, others) {
				t.Errorf("%s: %s, then %s", show(s), show(first), show(again))
			}
		}
	}
}
