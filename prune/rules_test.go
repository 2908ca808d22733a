package prune_test

import (
	"fmt"
	"slices"
	"testing"

	"makeweight/api"
	"makeweight/prune"
	"makeweight/spec"
)

// calls calls all functions, and returns their results as strings, and their
// errors.
func calls(s api.Spec, l, word []int, set, n int) (map[string]string, map[string]api.Errno) {
	results, errors := map[string]string{}, map[string]api.Errno{}
	add := func(name string, e api.Errno, l ...any) {
		results[name], errors[name] = fmt.Sprint(l...), e
	}
	hollow, e := prune.Hollow(s)
	add("Hollow", e, hollow)
	ladder, e := prune.Ladder(s)
	add("Ladder", e, ladder)
	is, e := prune.IsLadder(s, l)
	add("IsLadder", e, is)
	u, from, e := prune.Trim(s)
	add("Trim", e, u, from)
	m, e := prune.Some(s)
	add("Some", e, m)
	m, e = prune.With(s, word, set)
	add("With", e, m)
	w, e := prune.Words(s, n)
	add("Words", e, w)
	return results, errors
}

// zeros are the results of calls with an error, as calls returns them.
func zeros() map[string]string {
	return map[string]string{
		"Hollow": "[]", "Ladder": "[]", "IsLadder": "false", "Trim": "{[] []} []", "Some": "{[] []}", "With": "{[] []}", "Words": "[]",
	}
}

// refused fails the test unless all calls refuse a specification, whatever the
// other arguments are, and return zeros.
func refused(t *testing.T, why string, s api.Spec) {
	t.Helper()
	for _, number := range []int{0, -1, 1 << 40} {
		for _, l := range [][]int{nil, {0}, {number}, make([]int, api.MaxWord+1)} {
			results, errors := calls(s, l, l, number, number)
			for name, zero := range zeros() {
				if results[name] != zero || errors[name] != api.ErrSpec {
					t.Errorf("%s: %s = %.100s %d, want %s ErrSpec", why, name, results[name], errors[name], zero)
				}
			}
		}
	}
}

// P1, R1, R2 and R4: which error comes first.

func TestErrSpecFirst(t *testing.T) {
	for why, s := range badSpecs() {
		refused(t, why, s)
	}
}

func TestErrArgAheadOfErrNone(t *testing.T) {
	none, _ := spec.None([]string{"a"})
	for _, c := range []struct {
		word []int
		set  int
		want api.Errno
	}{
		{[]int{0}, 1, api.ErrNone}, {[]int{1}, 0, api.ErrArg}, {nil, 2, api.ErrArg}, {[]int{-1}, -1, api.ErrArg}, {nil, 0, api.ErrNone},
	} {
		if m, e := prune.With(none, c.word, c.set); e != c.want || !isZero(m) {
			t.Errorf("With of None, %v, %d: %s %d, want %d", c.word, c.set, show(m), e, c.want)
		}
	}
}

// R5: memory.

// roomy returns a list that is equal to l, with room behind it that holds x.
func roomy[E any](l []E, x E) []E {
	return append(slices.Clone(l), x)[:len(l)]
}

// isKept reports whether the room behind a list that roomy returned holds x.
func isKept[E comparable](l []E, x E) bool {
	return l[:len(l)+1][len(l)] == x
}

func TestArgumentsAreNotModified(t *testing.T) {
	for _, s := range specs() {
		ladder, _ := prune.Ladder(s)
		for _, word := range words(len(s.Actions), 2) {
			held := api.Spec{Actions: roomy(s.Actions, "room")}
			for _, state := range s.States {
				held.States = append(held.States, api.State{Accept: roomy(state.Accept, 77), Next: roomy(state.Next, 77)})
			}
			heldWord, heldLadder := roomy(word, 77), roomy(ladder, 77)
			calls(held, heldLadder, heldWord, 1, 2)
			same(t, "the specification", held, s)
			kept := slices.Equal(heldWord, word) && slices.Equal(heldLadder, ladder)
			kept = kept && isKept(held.Actions, "room") && isKept(heldWord, 77) && isKept(heldLadder, 77)
			for _, state := range held.States {
				kept = kept && isKept(state.Accept, 77) && isKept(state.Next, 77)
			}
			if !kept {
				t.Errorf("%s, %v, %v: a list was modified", show(s), word, ladder)
			}
		}
	}
}

// spoil writes into all memory of a list, also into what is behind it.
func spoil[E any](l []E, x E) {
	l = l[:cap(l)]
	for i := range l {
		l[i] = x
	}
}

func spoilSpec(s api.Spec) {
	for _, state := range s.States {
		spoil(state.Accept, 55)
		spoil(state.Next, 55)
	}
	spoil(s.States, api.State{})
	spoil(s.Actions, "spoilt")
}

func spoilSystem(m api.System) {
	for _, edges := range m.States {
		spoil(edges, api.Edge{Action: 55, To: 55})
	}
	spoil(m.States, nil)
	spoil(m.Actions, "spoilt")
}

// A made result is what one call returned, and what spoils its memory.
type made struct {
	text  func() string
	spoil func()
}

// all makes all results that have memory of their own.
func all(s api.Spec, word []int, set int) []made {
	hollow, _ := prune.Hollow(s)
	ladder, _ := prune.Ladder(s)
	u, from, _ := prune.Trim(s)
	some, _ := prune.Some(s)
	with, _ := prune.With(s, word, set)
	list, _ := prune.Words(s, 2)
	return []made{
		{func() string { return fmt.Sprint(hollow) }, func() { spoil(hollow, 55) }},
		{func() string { return fmt.Sprint(ladder) }, func() { spoil(ladder, 55) }},
		{func() string { return fmt.Sprint(u) }, func() { spoilSpec(u) }},
		{func() string { return fmt.Sprint(from) }, func() { spoil(from, 55) }},
		{func() string { return fmt.Sprint(some) }, func() { spoilSystem(some) }},
		{func() string { return fmt.Sprint(with) }, func() { spoilSystem(with) }},
		{func() string { return fmt.Sprint(list) }, func() {
			for _, w := range list {
				spoil(w, 55)
			}
			spoil(list, nil)
		}},
	}
}

func texts(l []made) []string {
	var texts []string
	for _, m := range l {
		texts = append(texts, m.text())
	}
	return texts
}

// TestResultsAreNewMemory spoils each result, and finds the arguments and the
// other results, also those of the same call, as they were.
func TestResultsAreNewMemory(t *testing.T) {
	for _, s := range specs() {
		u := clone(s)
		word, set := someWord(s)
		want := texts(all(s, word, set))
		for i := range want {
			l := all(s, word, set)
			l[i].spoil()
			same(t, "the specification", s, u)
			got := texts(l)
			got[i] = want[i]
			if !slices.Equal(got, want) || !slices.Equal(texts(all(s, word, set)), want) {
				t.Errorf("%s: result %d shares memory with others", show(s), i)
			}
		}
		l := all(s, word, set)
		spoilSpec(s)
		spoil(word, 55)
		if !slices.Equal(texts(l), want) {
			t.Errorf("%s: results share memory with the arguments", show(u))
		}
	}
}

// someWord returns a word of two actions and a set with which With returns a
// system, or any if there are none.
func someWord(s api.Spec) ([]int, int) {
	for _, word := range words(len(s.Actions), 2) {
		if sets := offers(s, word); len(sets) > 0 {
			return word, sets[0]
		}
	}
	return nil, 0
}

// TestRowsShareNoMemory writes behind each list of a result, and finds the
// other ones as they were.
func TestRowsShareNoMemory(t *testing.T) {
	for _, s := range specs() {
		word, set := someWord(s)
		u, from, _ := prune.Trim(s)
		some, _ := prune.Some(s)
		with, _ := prune.With(s, word, set)
		list, _ := prune.Words(s, 2)
		before := fmt.Sprint(u, from, some, with, list)
		for _, state := range u.States {
			_ = append(state.Accept, 55)
			_ = append(state.Next, 55)
		}
		for _, m := range []api.System{some, with} {
			for _, edges := range m.States {
				_ = append(edges, api.Edge{Action: 55})
			}
			_ = append(m.Actions, "spoilt")
		}
		for _, w := range list {
			_ = append(w, 55)
		}
		_ = append(u.Actions, "spoilt")
		_ = append(from, 55)
		if after := fmt.Sprint(u, from, some, with, list); after != before {
			t.Errorf("%s became %s", before, after)
		}
	}
}

// TestWordsShareNoMemory spoils one word of a list after the other.
func TestWordsShareNoMemory(t *testing.T) {
	list, _ := prune.Words(large(), 3)
	for i, word := range list {
		spoil(word, 55)
		if i+1 < len(list) && slices.Contains(list[i+1], 55) {
			t.Fatalf("word %d shares memory with word %d", i, i+1)
		}
	}
}

// R8: the same arguments give the same results.

func TestSameArgumentsSameResults(t *testing.T) {
	for _, s := range specs() {
		word, set := someWord(s)
		first, errors := calls(s, []int{0}, word, set, 2)
		for range 3 {
			calls(ring(3), nil, []int{0}, 1, 3)
			again, others := calls(clone(s), []int{0}, slices.Clone(word), set, 2)
			if fmt.Sprint(first, errors) != fmt.Sprint(again, others) {
				t.Errorf("%s: %s, then %s", show(s), show(first), show(again))
			}
		}
	}
}
