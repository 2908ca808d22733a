package prune_test

import (
	"math"
	"math/rand/v2"
	"slices"
	"testing"

	"makeweight/api"
	"makeweight/prune"
	"makeweight/spec"
	"makeweight/system"
)

// P4.3: Some, With and Words.

func TestSome(t *testing.T) {
	hollow := 0
	for _, s := range append(specs(), ring(api.MaxStates), chain(api.MaxStates), large()) {
		m, e := prune.Some(s)
		if hollowOf(s)[0] {
			hollow++
			if e != api.ErrNone || !isZero(m) {
				t.Errorf("Some(%s) = %s %d, want ErrNone", show(s), show(m), e)
			}
			continue
		}
		if e != api.OK || !satisfies(t, m, s) {
			t.Errorf("Some(%s) = %s %d", show(s), show(m), e)
		}
	}
	if hollow < 50 {
		t.Errorf("only %d specifications are hollow", hollow)
	}
}

// TestSomeKeepsClear has states whose first sets lead to hollow states, the last
// one of them only after more steps.
func TestSomeKeepsClear(t *testing.T) {
	for _, text := range []string{
		"spec a b;0: {a} {b} -> a 1 b 0;1: ->", "spec a b;0: {a} {b} -> a 1 b 2;1: {a} -> a 3;2: {} ->;3: ->",
		"spec a b;0: {a} {b} {a,b} -> a 1 b 2;1: {b} {a,b} -> a 0 b 3;2: {a} {b} -> a 1 b 0;3: ->",
	} {
		if m, e := prune.Some(of(text)); e != api.OK || !satisfies(t, m, of(text)) {
			t.Errorf("Some(%q) = %s %d", text, show(m), e)
		}
	}
}

func isZero(m api.System) bool {
	return len(m.Actions) == 0 && len(m.States) == 0
}

// checkWith fails the test unless With returns a system that satisfies s and
// offers the set after the word, or ErrNone if there is no such system.
func checkWith(t *testing.T, s api.Spec, word []int, set int, there bool) {
	t.Helper()
	m, e := prune.With(s, word, set)
	if !there {
		if e != api.ErrNone || !isZero(m) {
			t.Errorf("With(%s, %s, %d) = %s %d, want ErrNone", show(s), show(word), set, show(m), e)
		}
		return
	}
	if e != api.OK {
		t.Errorf("With(%s, %s, %d): error %d", show(s), show(word), set, e)
		return
	}
	if !satisfies(t, m, s) || !offersAfter(m, word, set) {
		t.Errorf("With(%s, %s, %d) = %s", show(s), show(word), set, show(m))
	}
}

func TestWithOfExamples(t *testing.T) {
	const (
		may  = "spec coin tea;0: {coin} -> coin 1;1: {} {tea} -> tea 0"
		trap = "spec a b;0: {a} {b} {a,b} -> a 1 b 0;1: {a} -> a 2;2: ->"
		two  = "spec a b;0: {a} {b} -> a 0 b 0"
		loop = "spec a b;0: {} {a} {b} {a,b} -> a 0 b 1;1: {b} {a,b} -> a 1 b 0"
	)
	for _, c := range []struct {
		text  string
		word  []int
		set   int
		there bool
	}{
		{may, nil, 1, true}, {may, []int{}, 1, true}, {may, []int{0}, 0, true}, {may, []int{0}, 2, true}, {may, []int{0, 1}, 1, true},
		{may, []int{0, 1, 0}, 0, true}, {may, []int{0, 1, 0, 1, 0}, 2, true},
		// The set is not accepted there.
		{may, nil, 0, false}, {may, nil, 3, false}, {may, []int{0}, 1, false}, {may, []int{0}, 3, false}, {may, []int{0, 1}, 0, false},
		// Nothing is there.
		{may, []int{1}, 0, false}, {may, []int{0, 0}, 0, false}, {may, []int{1, 0}, 0, false},
		// It is accepted, but leads to a hollow state.
		{trap, nil, 1, false}, {trap, nil, 2, true}, {trap, nil, 3, false}, {trap, []int{0}, 1, false}, {trap, []int{1}, 2, true}, {trap, []int{1, 1}, 1, false},
		// Actions are not offered together, but the word has both.
		{two, []int{0, 1, 0, 0, 1, 1}, 1, true}, {two, []int{0, 1, 0, 0, 1, 1}, 2, true}, {two, []int{0, 1}, 3, false}, {two, []int{0, 1}, 0, false},
		// The word comes back to states at which it does other things, and
		// offers there what it did not offer on the way.
		{loop, []int{0, 0, 1, 0, 1, 0}, 0, true}, {loop, []int{1, 0, 0, 1, 1, 1}, 0, true}, {loop, []int{1, 1, 1, 0, 0}, 2, true}, {loop, []int{1, 1}, 3, true}, {loop, []int{1}, 0, false},
		// Hollow specifications, and those without actions.
		{"spec a;0: -> a 0", nil, 0, false}, {"spec a;0: -> a 0", nil, 1, false}, {"spec a;0: -> a 0", []int{0}, 0, false},
		{"spec a;0: {a} -> a 1;1: ->", nil, 1, false}, {"spec;0: ->", nil, 0, false}, {"spec;0: {} ->", nil, 0, true},
		// An action that leads on, but is never offered.
		{"spec a b;0: {b} -> a 1 b 0;1: {} ->", []int{0}, 0, false}, {"spec a b;0: {b} -> a 1 b 0;1: {} ->", []int{1}, 2, true},
	} {
		checkWith(t, of(c.text), c.word, c.set, c.there)
	}
}

// TestWithAllShortWords holds With against what can be offered.
func TestWithAllShortWords(t *testing.T) {
	found := 0
	for _, s := range small() {
		for length := range 5 {
			for _, word := range words(len(s.Actions), length) {
				allowed := offers(s, word)
				for set := range 1 << len(s.Actions) {
					there := slices.Contains(allowed, set)
					checkWith(t, s, word, set, there)
					if there && length > 2 {
						found++
					}
				}
			}
		}
	}
	if found < 500 {
		t.Errorf("only %d systems", found)
	}
}

// TestWithFindsWhatSystemsDo takes what some systems do that satisfy a
// specification. With must find a system for all of that.
func TestWithFindsWhatSystemsDo(t *testing.T) {
	r := source()
	done := 0
	for _, s := range specs() {
		m := near(r, s)
		if !satisfies(t, m, s) {
			continue
		}
		for range 10 {
			word, set := walk(r, m, r.IntN(8))
			checkWith(t, s, word, set, true)
			if l, _ := prune.Words(s, min(len(word), 4)); !contains(l, word[:min(len(word), 4)]) {
				t.Errorf("Words(%s) lacks the beginning of %v", show(s), word)
			}
			done += len(word)
		}
	}
	if done < 500 {
		t.Errorf("the words have only %d actions", done)
	}
}

// walk follows edges of a system, and returns their actions and what is offered
// then.
func walk(r *rand.Rand, m api.System, length int) ([]int, int) {
	var word []int
	state := 0
	for range length {
		if edges := m.States[state]; len(edges) > 0 {
			e := edges[r.IntN(len(edges))]
			word, state = append(word, e.Action), e.To
		}
	}
	set, _ := system.Offer(m, state)
	return word, set
}

func contains(l [][]int, word []int) bool {
	return slices.ContainsFunc(l, func(other []int) bool { return slices.Equal(other, word) })
}

// TestWithTheLongestWord has words with more places than a system has states.
func TestWithTheLongestWord(t *testing.T) {
	r := source()
	for _, s := range []api.Spec{
		ring(1), ring(api.MaxStates), large(), full(letters, 1, func(int, int) int { return 0 }),
		full(letters, 7, func(state, action int) int { return (state*action + 3) % 7 }),
	} {
		var word []int
		for range api.MaxWord {
			word = append(word, r.IntN(len(s.Actions)))
		}
		state, _, _ := spec.After(s, word)
		for _, set := range []int{s.States[state].Accept[0], s.States[state].Accept[len(s.States[state].Accept)-1]} {
			checkWith(t, s, word, set, true)
			m, e := prune.With(s, append(slices.Clone(word), 0), set)
			if e != api.ErrArg || !isZero(m) {
				t.Errorf("a longer word: %s %d, want ErrArg", show(m), e)
			}
		}
	}
}

func TestWithRefusesOtherWordsAndSets(t *testing.T) {
	for _, text := range []string{"spec coin tea;0: {coin} -> coin 1;1: {} {tea} -> tea 0", "spec a b;0: -> a 0 b 0", "spec x y;0: {} {x} {y} {x,y} -> x 0 y 0"} {
		for _, word := range [][]int{{-1}, {2}, {0, 2}, {0, 1, 0, -1}, {1, 1, 2}, {math.MaxInt}, {math.MinInt}, make([]int, api.MaxWord+1), make([]int, 1<<20)} {
			for _, set := range []int{0, 1, -1, 4} {
				if m, e := prune.With(of(text), word, set); e != api.ErrArg || !isZero(m) {
					t.Errorf("With(%q, %s, %d) = %s %d, want ErrArg", text, show(word), set, show(m), e)
				}
			}
		}
		for _, set := range []int{-1, -2, 4, 5, 8, 256, 1 << 40, math.MaxInt, math.MinInt} {
			for _, word := range [][]int{nil, {0}, {1}, {0, 1}, make([]int, api.MaxWord)} {
				if m, e := prune.With(of(text), word, set); e != api.ErrArg || !isZero(m) {
					t.Errorf("With(%q, %s, %d) = %s %d, want ErrArg", text, show(word), set, show(m), e)
				}
			}
		}
	}
	if m, e := prune.With(of("spec;0: {} ->"), []int{0}, 0); e != api.ErrArg || !isZero(m) {
		t.Errorf("a word without actions: %s %d, want ErrArg", show(m), e)
	}
	if m, e := prune.With(of("spec;0: {} ->"), nil, 1); e != api.ErrArg || !isZero(m) {
		t.Errorf("a set without actions: %s %d, want ErrArg", show(m), e)
	}
	if m, e := prune.With(large(), nil, 256); e != api.ErrArg || !isZero(m) {
		t.Errorf("a set of nine actions: %s %d, want ErrArg", show(m), e)
	}
	checkWith(t, large(), nil, 255, true)
}

func TestWordsOfExamples(t *testing.T) {
	for _, c := range []struct {
		text string
		n    int
		want [][]int
	}{
		{"spec coin tea;0: {coin} -> coin 1;1: {} {tea} -> tea 0", 0, [][]int{{}}},
		{"spec coin tea;0: {coin} -> coin 1;1: {} {tea} -> tea 0", 1, [][]int{{0}}},
		{"spec coin tea;0: {coin} -> coin 1;1: {} {tea} -> tea 0", 4, [][]int{{0, 1, 0, 1}}},
		{"spec a b;0: {a} {b} -> a 0 b 0", 2, [][]int{{0, 0}, {0, 1}, {1, 0}, {1, 1}}},
		{"spec a b;0: {a} {b} -> a 0 b 1;1: {b} -> a 0 b 0", 3, [][]int{{0, 0, 0}, {0, 0, 1}, {0, 1, 1}, {1, 1, 0}, {1, 1, 1}}},
		// Only what leads to no hollow state.
		{"spec a b;0: {a} {b} -> a 1 b 0;1: ->", 1, [][]int{{1}}}, {"spec a b;0: {a} {b} {a,b} -> a 0 b 1;1: {a} -> a 2;2: ->", 2, [][]int{{0, 0}}},
		// Only what is offered.
		{"spec a b;0: {b} -> a 0 b 0", 2, [][]int{{1, 1}}},
		// Nothing can follow any more.
		{"spec a;0: {} -> a 0", 0, [][]int{{}}}, {"spec a;0: {} -> a 0", 1, nil}, {"spec a;0: {a} -> a 1;1: {} ->", 1, [][]int{{0}}}, {"spec a;0: {a} -> a 1;1: {} ->", 2, nil}, {"spec a;0: {a} -> a 1;1: {} ->", 4, nil},
		{"spec;0: {} ->", 0, [][]int{{}}}, {"spec;0: {} ->", 1, nil}, {"spec;0: {} ->", 4, nil},
		// A hollow specification has no words, not even the empty one.
		{"spec;0: ->", 0, nil}, {"spec;0: ->", 1, nil}, {"spec a;0: -> a 0", 0, nil}, {"spec a;0: -> a 0", 1, nil}, {"spec a;0: {a} -> a 1;1: ->", 0, nil}, {"spec a;0: {a} -> a 1;1: ->", 4, nil},
	} {
		if l, e := prune.Words(of(c.text), c.n); !slices.EqualFunc(l, c.want, slices.Equal) || e != api.OK {
			t.Errorf("Words(%q, %d) = %v %d, want %v", c.text, c.n, l, e, c.want)
		}
	}
}

func TestWordsOfRandomSpecifications(t *testing.T) {
	for _, s := range specs() {
		for n := range 5 {
			want := slices.DeleteFunc(words(len(s.Actions), n), func(word []int) bool { return len(offers(s, word)) == 0 })
			if l, e := prune.Words(s, n); !slices.EqualFunc(l, want, slices.Equal) || e != api.OK {
				t.Errorf("Words(%s, %d) = %s %d, want %s", show(s), n, show(l), e, show(want))
			}
			if len(s.Actions) == api.MaxActions && n == 2 {
				break
			}
		}
	}
}

func TestWordsOfManyActions(t *testing.T) {
	for n := range 5 {
		if l, e := prune.Words(large(), n); !slices.EqualFunc(l, words(api.MaxActions, n), slices.Equal) || e != api.OK {
			t.Errorf("Words of %d actions: %d words, error %d", n, len(l), e)
		}
	}
}

func TestWordsRefusesOtherNumbers(t *testing.T) {
	for _, text := range []string{"spec a b;0: {a} {b} -> a 0 b 0", "spec a;0: {} -> a 0", "spec;0: {} ->", "spec a;0: ->"} {
		for _, n := range []int{-1, -2, 5, 6, 1 << 40, math.MaxInt, math.MinInt} {
			if l, e := prune.Words(of(text), n); len(l) > 0 || e != api.ErrArg {
				t.Errorf("Words(%q, %d) = %v %d, want ErrArg", text, n, l, e)
			}
		}
	}
}

// P4.5: what trim specifications accept is offered.

func TestTrimSpecificationsAcceptWhatIsOffered(t *testing.T) {
	offered := 0
	for _, s := range specs() {
		u, from, _ := prune.Trim(s)
		if from == nil || len(u.Actions) > 3 {
			continue
		}
		for length := range 4 {
			for _, word := range words(len(u.Actions), length) {
				state, is, _ := spec.After(u, word)
				if !is {
					continue
				}
				for _, set := range u.States[state].Accept {
					checkWith(t, u, word, set, true)
					offered++
				}
			}
		}
	}
	if offered < 1000 {
		t.Errorf("only %d sets were offered", offered)
	}
}
