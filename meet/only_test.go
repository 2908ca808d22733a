package meet_test

import (
	"math"
	"math/rand/v2"
	"slices"
	"testing"

	"makeweight/api"
	"makeweight/meet"
	"makeweight/spec"
	"makeweight/system"
)

// P7.3: Only.

func checkOnly(t *testing.T, s api.Spec, words ...[]int) api.Spec {
	t.Helper()
	o, e := meet.Only(s, words)
	taskOf(len(s.Actions), false, words, s).check(t, show("only ", s, " without ", words), o, e, s.Actions)
	return o
}

func TestOnlyOfExamples(t *testing.T) {
	const (
		a    = "spec a;0: {} {a} -> a 0"
		must = "spec a;0: {a} -> a 0"
		ab   = "spec a b;0: {} {a} {b} {a,b} -> a 0 b 0"
		each = "spec a b;0: {a} {b} -> a 0 b 0"
		none = "spec a;0: ->"
	)
	for _, c := range []struct {
		s     string
		words [][]int
		want  string
	}{
		{a, [][]int{{0}}, "spec a;0: {} ->"}, {a, [][]int{{0, 0}}, "spec a;0: {} {a} -> a 1;1: {} ->"}, {a, [][]int{{0, 0, 0}}, "spec a;0: {} {a} -> a 1;1: {} {a} -> a 2;2: {} ->"},
		// No words.
		{a, nil, a}, {a, [][]int{}, a}, {must, nil, must}, {ab, nil, ab}, {none, nil, none}, {may, nil, may}, {"spec;0: {} ->", nil, "spec;0: {} ->"}, {"spec;0: ->", nil, "spec;0: ->"},
		// The empty word can always be done.
		{a, [][]int{{}}, none}, {a, [][]int{nil}, none}, {a, [][]int{{0}, {}}, none}, {a, [][]int{{}, {}, {0, 0}}, none}, {none, [][]int{{}}, none}, {"spec;0: {} ->", [][]int{{}}, "spec;0: ->"}, {"spec;0: ->", [][]int{{}}, "spec;0: ->"},
		// Words that begin other ones, in both orders, and a word twice.
		{a, [][]int{{0, 0}, {0}}, "spec a;0: {} ->"}, {a, [][]int{{0}, {0, 0}}, "spec a;0: {} ->"}, {a, [][]int{{0, 0, 0}, {0}, {0, 0}}, "spec a;0: {} ->"}, {a, [][]int{{0, 0}, {0, 0}}, "spec a;0: {} {a} -> a 1;1: {} ->"},
		{ab, [][]int{{0, 1}, {0}, {1, 1}}, "spec a b;0: {} {b} -> b 1;1: {} {a} -> a 2;2: {} {a} {b} {a,b} -> a 2 b 2"},
		// Several words.
		{ab, [][]int{{0}, {1}}, "spec a b;0: {} ->"}, {ab, [][]int{{0}}, "spec a b;0: {} {b} -> b 1;1: {} {a} {b} {a,b} -> a 1 b 1"},
		{ab, [][]int{{0, 1}, {1, 0}}, "spec a b;0: {} {a} {b} {a,b} -> a 1 b 2;1: {} {a} -> a 3;2: {} {b} -> b 3;3: {} {a} {b} {a,b} -> a 3 b 3"},
		{ab, [][]int{{0, 1}, {0, 0}}, "spec a b;0: {} {a} {b} {a,b} -> a 1 b 2;1: {} ->;2: {} {a} {b} {a,b} -> a 2 b 2"},
		{ab, [][]int{{0, 1, 0}}, "spec a b;0: {} {a} {b} {a,b} -> a 1 b 2;1: {} {a} {b} {a,b} -> a 2 b 3;2: {} {a} {b} {a,b} -> a 2 b 2;3: {} {b} -> b 2"},
		{each, [][]int{{0, 0}}, "spec a b;0: {a} {b} -> a 1 b 2;1: {b} -> b 2;2: {a} {b} -> a 2 b 2"},
		// Words that cannot be done anyway: there is no state, the action is in
		// no set, or leads to a hollow state.
		{may, [][]int{{1}, {0, 0}, {0, 1, 1}, {1, 0, 1}}, may}, {"spec a b;0: {b} -> a 0 b 0", [][]int{{0}, {0, 1}, {1, 0}}, "spec a b;0: {b} -> b 0"},
		{"spec a b;0: {a} {b} -> a 1 b 0;1: -> a 0 b 0", [][]int{{0}, {1, 0}, {0, 1}}, "spec a b;0: {b} -> b 0"}, {none, [][]int{{0}, {0, 0}}, none},
		// Words without which no system is left.
		{must, [][]int{{0}}, none}, {must, [][]int{{0, 0, 0, 0}}, none}, {always, [][]int{{0, 1, 0}}, "spec coin tea;0: ->"}, {always, [][]int{{0}}, "spec coin tea;0: ->"}, {each, [][]int{{0, 0}, {1}, {0, 1}}, "spec a b;0: ->"}, {each, [][]int{{0}, {1}}, "spec a b;0: ->"},
		// Only the systems are left that stop before.
		{may, [][]int{{0, 1}}, "spec coin tea;0: {coin} -> coin 1;1: {} ->"}, {may, [][]int{{0, 1, 0}}, "spec coin tea;0: {coin} -> coin 1;1: {} ->"}, {may, [][]int{{0, 1, 0, 1, 0}}, "spec coin tea;0: {coin} -> coin 1;1: {} {tea} -> tea 2;2: {coin} -> coin 3;3: {} ->"},
		// The word comes through states from which nothing is ruled out later.
		{"spec a b;0: {a} {b} -> a 1 b 0;1: {a} {b} -> a 0 b 1", [][]int{{0, 0, 0}}, "spec a b;0: {a} {b} -> a 1 b 4;1: {a} {b} -> a 2 b 3;2: {b} -> b 4;3: {a} {b} -> a 4 b 3;4: {a} {b} -> a 3 b 4"},
	} {
		equal(t, show(c), checkOnly(t, of(c.s), c.words...), of(c.want))
	}
}

// someWords returns words of a specification, many of which can be done, and
// some of which are equal to another one, longer or shorter.
func someWords(r *rand.Rand, s api.Spec) [][]int {
	var l [][]int
	for range r.IntN(6) {
		var word []int
		state := 0
		for range 1 + r.IntN(4) {
			action := r.IntN(len(s.Actions))
			if to := s.States[state].Next[action]; to >= 0 || r.IntN(4) == 0 {
				word, state = append(word, action), max(to, 0)
			}
		}
		if len(word) > 0 {
			l = append(l, word)
		}
		if len(l) > 0 && r.IntN(3) == 0 {
			other := l[r.IntN(len(l))]
			l = append(l, append(slices.Clone(other), r.IntN(len(s.Actions))), other[:1+r.IntN(len(other))])
		}
	}
	return l
}

func TestOnlyOfRandomWords(t *testing.T) {
	r := source()
	hollow, grown, kept := 0, 0, 0
	for _, c := range couples() {
		for _, s := range c {
			if len(s.Actions) == 0 || hollowOf(s)[0] {
				continue
			}
			l := someWords(r, s)
			o := checkOnly(t, s, l...)
			is := slices.IndexFunc(l, func(word []int) bool { _, there, _ := spec.After(cut(s), word); return there }) < 0
			switch {
			case is:
				kept++
				equal(t, show("only ", s, " without ", l), o, s)
			case len(o.States[0].Accept) == 0:
				hollow++
			case len(o.States) > len(s.States):
				grown++
			}
		}
	}
	if hollow < 100 || grown < 100 || kept < 100 {
		t.Errorf("%d results are None, %d grew, %d are the same", hollow, grown, kept)
	}
}

// TestOnlyOfAllShortWords takes each subset of the words of at most two actions.
func TestOnlyOfAllShortWords(t *testing.T) {
	l := slices.Concat(words(2, 0), words(2, 1), words(2, 2))
	for _, s := range []api.Spec{all("a b"), of("spec a b;0: {a} {b} -> a 1 b 0;1: {} {a} {a,b} -> a 0 b 2;2: {b} {a,b} -> a 1 b 1"), of("spec a b;0: {a} {a,b} -> a 1 b 1;1: {} {b} -> b 0")} {
		for bits := range 1 << len(l) {
			var some [][]int
			for i, word := range l {
				if has(bits, i) {
					some = append(some, word)
				}
			}
			checkOnly(t, s, some...)
			slices.Reverse(some)
			checkOnly(t, s, some...)
		}
	}
}

// canDo reports whether a system can do one of the words.
func canDo(m api.System, l [][]int) bool {
	return slices.ContainsFunc(l, func(word []int) bool {
		states, e := system.After(m, word)
		if e != api.OK {
			panic(e)
		}
		return len(states) > 0
	})
}

// TestOnlyOfSystems holds Only against its definition for all systems with one
// action and at most three states, or two actions and at most two.
func TestOnlyOfSystems(t *testing.T) {
	r := source()
	left, lost := 0, 0
	for i, c := range couples() {
		s := c[0]
		if len(s.Actions) == 0 || len(s.Actions) > 2 || i%4 == 3 {
			continue
		}
		l := someWords(r, s)
		o, _ := meet.Only(s, l)
		for _, m := range systems(s.Actions) {
			is, can := satisfies(m, s), canDo(m, l)
			if satisfies(m, o) != (is && !can) {
				t.Errorf("%s satisfies %s: %v, can do one of %v: %v, and then %s", show(m), show(s), is, l, can, show(o))
			}
			switch {
			case is && can:
				lost++
			case is && len(l) > 0:
				left++
			}
		}
	}
	if left < 500 || lost < 500 {
		t.Errorf("only %d systems are left, %d lost", left, lost)
	}
}

func TestOnlyRefusesOtherWords(t *testing.T) {
	for _, s := range []api.Spec{of(may), none("a b"), all("a b"), of("spec a b;0: {a} -> a 1 b 0;1: ->"), full("a b", api.MaxStates, func(state, _ int) int { return (state + 1) % api.MaxStates })} {
		for _, word := range [][]int{{-1}, {2}, {0, 2}, {0, 1, 0, -1}, {1, 1, 2}, {math.MaxInt}, {math.MinInt}, make([]int, api.MaxWord+1), make([]int, 1<<20)} {
			for _, l := range [][][]int{{word}, {{0}, word}, {word, {0}}, {{}, word}, {word, {}}, {word, word}, {make([]int, api.MaxWord), {0, 1, 0}, word, nil}} {
				o, e := meet.Only(s, l)
				refused(t, "Only with another word", o, e, api.ErrArg)
			}
		}
	}
	for _, s := range []api.Spec{all(""), none("")} {
		for _, l := range [][][]int{{{0}}, {{}, {0}}, {{0}, {}}, {{-1}}} {
			o, e := meet.Only(s, l)
			refused(t, show("Only without actions of ", l), o, e, api.ErrArg)
		}
	}
	for why, s := range badSpecs() {
		for _, l := range [][][]int{nil, {{}}, {{0}}, {{-1}}, {make([]int, api.MaxWord+1)}, {{0}, {77}}} {
			o, e := meet.Only(s, l)
			refused(t, why, o, e, api.ErrSpec)
		}
	}
}

// TestOnlyOfLongWords has words that no system does to the end, or that lead
// through each state many times.
func TestOnlyOfLongWords(t *testing.T) {
	long := make([]int, api.MaxWord)
	equal(t, "a long word that ends early", checkOnly(t, of("spec a;0: {} {a} -> a 1;1: {} ->"), long, long[:2]), of("spec a;0: {} {a} -> a 1;1: {} ->"))
	equal(t, "a long word behind a short one", checkOnly(t, notched(7), long, long[:7], long[:9999]), of("spec a;0: {} ->"))
	stuck := of("spec a b;0: {a} {b} -> a 0 b 1;1: {b} -> b 1")
	other := slices.Repeat([]int{0, 1}, api.MaxWord/2)
	equal(t, "a long word that is not done", checkOnly(t, stuck, other, other[:9000], append([]int{0}, other[:76]...)), stuck)
	many := slices.Repeat([][]int{{0}, {0, 0, 0}, {0, 0}}, 100000)
	equal(t, "many words", checkOnly(t, notched(3), many...), of("spec a;0: {} ->"))
}

// TestOnlyOfWordsThatAreNotDone has so many states that no other one fits: words
// that cannot be done anyway need none, however long they are.
func TestOnlyOfWordsThatAreNotDone(t *testing.T) {
	s := notched(api.MaxStates)
	s.Actions = names(2)
	for number := range s.States {
		s.States[number].Next = append(s.States[number].Next, number)
	}
	l := [][]int{{1}, append(make([]int, api.MaxWord-1), 1), {0, 0, 1, 0}}
	o, e := meet.Only(s, l)
	if equal(t, "words that are not done", o, s); e != api.OK {
		t.Errorf("words that are not done: error %d", e)
	}
}
