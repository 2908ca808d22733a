package meet_test

import (
	"fmt"
	"slices"
	"testing"

	"makeweight/api"
	"makeweight/meet"
)

// P1, R1, R2 and R4: which error comes first.

// refusedBoth fails the test unless Meet and Join refuse specifications, in both
// orders.
func refusedBoth(t *testing.T, why string, s, u api.Spec, want api.Errno) {
	t.Helper()
	for _, c := range [][2]api.Spec{{s, u}, {u, s}} {
		r, e := meet.Meet(c[0], c[1])
		refused(t, why+": Meet", r, e, want)
		r, e = meet.Join(c[0], c[1])
		refused(t, why+": Join", r, e, want)
	}
}

func TestErrSpecFirst(t *testing.T) {
	for why, bad := range badSpecs() {
		for _, other := range []api.Spec{all("a"), all("a b"), none(""), ring(api.MaxStates), full(letters, 3, func(int, int) int { return 0 })} {
			refusedBoth(t, why, bad, other, api.ErrSpec)
		}
		for other, worse := range badSpecs() {
			refusedBoth(t, why+" and "+other, bad, worse, api.ErrSpec)
		}
	}
}

func TestErrActionsOfTwo(t *testing.T) {
	l := []api.Spec{all(""), all("a"), all("b"), all("a b"), all("b a"), all("a b c"), none("d"), of(may), notched(500), full("c", 500, func(state, _ int) int { return (state + 1) % 500 })}
	for i, s := range l {
		for k, other := range l {
			if i != k && !slices.Equal(s.Actions, other.Actions) {
				refusedBoth(t, "other actions", s, other, api.ErrActions)
			}
		}
	}
}

// R5: memory.

// roomy returns a list that is equal to l, with room behind it that holds x.
func roomy[E any](l []E, x E) []E {
	return append(slices.Clone(l), x)[:len(l)]
}

// isKept reports whether the room behind a list that roomy returned holds x.
func isKept[E comparable](l []E, x E) bool {
	return l[:len(l)+1][len(l)] == x
}

func roomySpec(s api.Spec) api.Spec {
	c := api.Spec{Actions: roomy(s.Actions, "room"), States: roomy(s.States, api.State{})}
	for number, state := range c.States {
		c.States[number] = api.State{Accept: roomy(state.Accept, 77), Next: roomy(state.Next, 77)}
	}
	return c
}

func isKeptSpec(s api.Spec) bool {
	behind := s.States[:len(s.States)+1][len(s.States)]
	return isKept(s.Actions, "room") && len(behind.Accept)+len(behind.Next) == 0 && !slices.ContainsFunc(s.States, func(state api.State) bool {
		return !isKept(state.Accept, 77) || !isKept(state.Next, 77)
	})
}

// An input is the arguments of all functions.
type input struct {
	actions []string
	l       []api.Spec
	words   [][]int
}

// inputs returns arguments of many shapes, also of those with None as a result.
func inputs() []input {
	r := source()
	var l []input
	for i, c := range couples() {
		if i%2 > 0 || len(c[0].Actions) > 3 {
			continue
		}
		in := input{slices.Clone(c[0].Actions), []api.Spec{clone(c[0]), clone(c[1]), near(r, c[0])}[:2+i%4/2], nil}
		if len(in.actions) > 0 {
			for _, word := range someWords(r, c[0]) {
				in.words = append(in.words, slices.Clone(word))
			}
		}
		l = append(l, in)
	}
	return l
}

// results calls all functions.
func results(in input) []api.Spec {
	var l []api.Spec
	add := func(s api.Spec, _ api.Errno) { l = append(l, s) }
	add(meet.Meet(in.l[0], in.l[1]))
	add(meet.Join(in.l[0], in.l[1]))
	for _, some := range [][]api.Spec{in.l, nil, in.l[:1]} {
		add(meet.All(in.actions, some))
		add(meet.Any(in.actions, some))
	}
	for _, words := range [][][]int{in.words, {nil}, nil} {
		add(meet.Only(in.l[0], words))
	}
	return l
}

func TestArgumentsAreNotModified(t *testing.T) {
	for _, in := range inputs() {
		held := input{actions: roomy(in.actions, "room")}
		for _, s := range in.l {
			held.l = append(held.l, roomySpec(s))
		}
		for _, word := range in.words {
			held.words = append(held.words, roomy(word, 77))
		}
		held.l, held.words = roomy(held.l, api.Spec{}), roomy(held.words, nil)
		before := fmt.Sprint(held)
		results(held)
		if after := fmt.Sprint(held); after != before {
			t.Errorf("%s became %s", before, after)
		}
		behind := held.l[:len(held.l)+1][len(held.l)]
		if !isKept(held.actions, "room") || !isZero(behind) || held.words[:len(held.words)+1][len(held.words)] != nil {
			t.Errorf("%s: something was written behind a list", before)
		}
		for _, s := range held.l {
			if !isKeptSpec(s) {
				t.Errorf("%s: something was written behind the lists of %s", before, show(s))
			}
		}
		for _, word := range held.words {
			if !isKept(word, 77) {
				t.Errorf("%s: something was written behind %v", before, word)
			}
		}
	}
}

// spoil writes into all memory of a list, also into what is behind it.
func spoil[E any](l []E, x E) {
	l = l[:cap(l)]
	for i := range l {
		l[i] = x
	}
}

func spoilSpec(s api.Spec) {
	for _, state := range s.States {
		spoil(state.Accept, 55)
		spoil(state.Next, 55)
	}
	spoil(s.States, api.State{})
	spoil(s.Actions, "spoilt")
}

func spoilInput(in input) {
	for _, s := range in.l {
		spoilSpec(s)
	}
	for _, word := range in.words {
		spoil(word, 55)
	}
	spoil(in.l, api.Spec{})
	spoil(in.words, nil)
	spoil(in.actions, "spoilt")
}

// A part is a list of a result: what it holds, and what spoils it.
type part struct {
	text  func() string
	spoil func()
}

func partOf[E any](l []E, x E) part {
	return part{func() string { return fmt.Sprint(l) }, func() { spoil(l, x) }}
}

// parts makes all results, and returns their parts.
func parts(in input) []part {
	var l []part
	for _, s := range results(in) {
		l = append(l, partOf(s.Actions, "spoilt"))
		for _, state := range s.States {
			l = append(l, partOf(state.Accept, 55), partOf(state.Next, 55))
		}
	}
	return l
}

func texts(l []part) []string {
	var texts []string
	for _, p := range l {
		texts = append(texts, p.text())
	}
	return texts
}

// TestResultsAreNewMemory spoils each part of the results, and finds the
// arguments, the other parts, and later results as they were.
func TestResultsAreNewMemory(t *testing.T) {
	for _, in := range inputs()[:120] {
		before := fmt.Sprint(in)
		want := texts(parts(in))
		for i := range want {
			l := parts(in)
			l[i].spoil()
			got := texts(l)
			got[i] = want[i]
			if !slices.Equal(got, want) {
				t.Errorf("%s: part %d shares memory", before, i)
			}
			if after := fmt.Sprint(in); after != before {
				t.Errorf("%s became %s with part %d", before, after, i)
			}
		}
		if !slices.Equal(texts(parts(in)), want) {
			t.Errorf("%s: later results are not the same", before)
		}
		l := parts(in)
		spoilInput(in)
		if !slices.Equal(texts(l), want) {
			t.Errorf("%s: %s became %s with them", before, show(want), show(texts(l)))
		}
	}
}

// TestListsOfStatesAreNewMemory spoils those of one result after the other.
func TestListsOfStatesAreNewMemory(t *testing.T) {
	for _, in := range inputs() {
		before := fmt.Sprint(in)
		l := results(in)
		for len(l) > 0 {
			want := fmt.Sprint(l[1:])
			spoil(l[0].States, api.State{})
			l = l[1:]
			if got := fmt.Sprint(l); got != want || fmt.Sprint(in) != before {
				t.Errorf("%s: %s became %s", before, want, got)
			}
		}
	}
}

// R8: the same arguments give the same results.

func TestSameArgumentsSameResults(t *testing.T) {
	for _, in := range inputs() {
		first := fmt.Sprint(results(in))
		for range 3 {
			other := input{actions: roomy(in.actions, "room"), words: in.words}
			for _, s := range in.l {
				other.l = append(other.l, roomySpec(s))
			}
			results(input{[]string{"a"}, []api.Spec{ring(2), notched(3)}, [][]int{{0, 0}}})
			if again := fmt.Sprint(results(other)); again != first {
				t.Errorf("%s: %s, then %s", show(in), first, again)
			}
		}
	}
}

// R5: nil and empty lists are the same.

func TestEmptyListsAndNil(t *testing.T) {
	for _, s := range []api.Spec{{Actions: []string{}, States: []api.State{{Accept: []int{0}, Next: []int{}}}}, {Actions: nil, States: []api.State{{Accept: []int{0}, Next: nil}}}} {
		for _, u := range []api.Spec{all(""), none(""), {Actions: []string{}, States: []api.State{{Accept: []int{}, Next: []int{}}}}} {
			checkMeet(t, s, u)
			checkMeet(t, u, s)
			checkJoin(t, s, u)
			checkJoin(t, u, s)
			checkAll(t, []string{}, s, u)
			checkAny(t, nil, s, u)
			checkOnly(t, s, [][]int{}...)
			checkOnly(t, u, []int{})
		}
	}
}
