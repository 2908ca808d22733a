package least_test

import (
	"slices"
	"testing"

	"makeweight/api"
	"makeweight/least"
	"makeweight/refine"
)

// P6.1: Classes.

func TestClassesOfExamples(t *testing.T) {
	for _, c := range []struct {
		text string
		want []int
	}{
		// Example 1 of the chapter.
		{"spec a;0: {a} -> a 1;1: {a} -> a 0", []int{0, 0}},
		{may, []int{0, 1}}, {"spec;0: {} ->", []int{0}}, {"spec;0: ->", []int{0}}, {"spec;0: {} ->;1: ->;2: {} ->", []int{0, 1, 0}},
		// Other sets: more, fewer, and as many.
		{"spec a b;0: {a} -> a 0 b 0;1: {} {a} -> a 0 b 0;2: {b} -> a 0 b 0;3: {a,b} -> a 0 b 0;4: {} -> a 0 b 0", []int{0, 1, 2, 3, 4}},
		// The same sets, but what follows them is different: at once, by
		// either action, and only after some steps.
		{"spec a;0: {a} -> a 1;1: {} ->;2: {a} -> a 3;3: {} {a} -> a 3", []int{0, 1, 2, 3}},
		{"spec a b;0: {a,b} -> a 0 b 2;1: {a,b} -> a 0 b 3;2: {} ->;3: {a} -> a 3", []int{0, 1, 2, 3}},
		{"spec a b;0: {a,b} -> a 2 b 0;1: {a,b} -> a 3 b 0;2: {} ->;3: {a} -> a 3", []int{0, 1, 2, 3}},
		{"spec a;0: {a} -> a 1;1: {a} -> a 2;2: {a} -> a 3;3: {} ->", []int{0, 1, 2, 3}},
		{"spec a;0: {a} -> a 1;1: {a} -> a 2;2: {a} -> a 3;3: {a} -> a 0", []int{0, 0, 0, 0}},
		{"spec a;0: {a} -> a 1;1: {} {a} -> a 2;2: {a} -> a 3;3: {} {a} -> a 0", []int{0, 1, 0, 1}},
		// Sets that several states accept do not matter when one is more.
		{"spec a b;0: {a} {b} -> a 0 b 1;1: {a} {b} -> a 1 b 0;2: {a} {b} {a,b} -> a 0 b 1", []int{0, 0, 1}},
		// Classes have the order of their first states.
		{"spec a;0: {a} -> a 3;1: {} ->;2: {a} -> a 3;3: {} {a} -> a 1;4: {} ->;5: {a} -> a 5", []int{0, 1, 0, 2, 1, 3}},
		{"spec a;0: {} ->;1: {a} -> a 1;2: {a} -> a 0;3: {a} -> a 1", []int{0, 1, 2, 1}},
		// They do not have the order in which states are found.
		{"spec a b;0: {a,b} -> a 2 b 1;1: {} ->;2: {a} -> a 2", []int{0, 1, 2}},
		// All hollow states are in one class, the first of them or not:
		// those that accept nothing, and those that accept what leads to them.
		{"spec a;0: -> a 1;1: {a} -> a 0;2: {a} -> a 1;3: {} ->;4: {a} -> a 4", []int{0, 0, 0, 1, 2}},
		{"spec a;0: {a} -> a 0;1: -> a 0;2: {} ->;3: {a} -> a 1;4: ->", []int{0, 1, 2, 1, 1}},
		{"spec a b;0: {a} {b} -> a 1 b 2;1: {a,b} -> a 0 b 2;2: ->", []int{0, 0, 0}},
		// One that accepts only what leads to a hollow one, and one that
		// accepts something else beside it.
		{"spec a b;0: {a} -> a 3;1: {a} {b} -> a 3 b 1;2: {b} -> b 1;3: ->;4: {a,b} -> a 3 b 1", []int{0, 1, 1, 0, 0}},
		// The same ones, written otherwise: sets that lead to a hollow state,
		// as a whole, actions in no set, and actions in none any more.
		{"spec a b;0: {b} -> b 0;1: {b} -> a 3 b 1;2: {b} {a,b} -> a 3 b 0;3: -> a 1 b 1;4: {b} -> a 4 b 2", []int{0, 0, 0, 1, 0}},
		{"spec a b;0: {} ->;1: {} -> a 0 b 1;2: {} {a} -> a 3 b 0;3: ->;4: {} {a,b} -> a 3 b 4;5: {} {a,b} -> a 5 b 5", []int{0, 0, 0, 1, 0, 2}},
		{"spec a b;0: {a} -> a 0 b 1;1: {a} -> a 1 b 2;2: {a} -> a 0;3: {b} -> a 0 b 3;4: {b} -> a 3 b 4", []int{0, 0, 0, 1, 1}},
		// States that are not reached, or only through what is trimmed away,
		// have classes of their own and with others.
		{"spec a b;0: {a} {b} -> a 1 b 0;1: {a} -> a 2;2: -> a 3;3: {b} -> b 3;4: {a} -> a 4;5: {} ->;6: {a} {b} -> a 2 b 6", []int{0, 1, 1, 0, 2, 3, 0}},
	} {
		if got, e := least.Classes(of(c.text)); !slices.Equal(got, c.want) || e != api.OK {
			t.Errorf("Classes of %q: %v %d, want %v", c.text, got, e, c.want)
		}
	}
}

func TestClassesOfNoneAndAll(t *testing.T) {
	for n := range api.MaxActions + 1 {
		names := letters[:max(2*n-1, 0)]
		for _, s := range []api.Spec{none(names), all(names)} {
			if got, e := least.Classes(s); !slices.Equal(got, []int{0}) || e != api.OK {
				t.Errorf("Classes(%s) = %v %d, want [0]", show(s), got, e)
			}
		}
	}
}

// classesOf is Classes, by the definition.
func classesOf(s api.Spec) []int {
	related := alike(s)
	var leaders, classes []int
	for state := range s.States {
		leader := firstAlike(related, state)
		if leader == state {
			leaders = append(leaders, state)
		}
		classes = append(classes, slices.Index(leaders, leader))
	}
	return classes
}

func TestClassesOfRandomSpecifications(t *testing.T) {
	merged, apart, hollow := 0, 0, 0
	for _, s := range specs() {
		want := classesOf(s)
		if got, e := least.Classes(s); !slices.Equal(got, want) || e != api.OK {
			t.Errorf("Classes(%s) = %v %d, want %v", show(s), got, e, want)
		}
		switch count := slices.Max(want) + 1; {
		case count == 1:
		case count < len(want):
			merged++
		default:
			apart++
		}
		if h := hollowOf(s); slices.Contains(h, true) && slices.Contains(h, false) {
			hollow++
		}
	}
	if merged < 200 || apart < 100 || hollow < 200 {
		t.Errorf("too much alike: in %d some states are merged, in %d none, in %d some are hollow", merged, apart, hollow)
	}
}

// TestClassesAreThoseOfTheImplementations asks package refine which states have
// the same ones.
func TestClassesAreThoseOfTheImplementations(t *testing.T) {
	together, apart := 0, 0
	for _, s := range specs() {
		classes, _ := least.Classes(s)
		for p := range classes {
			for q := range p {
				is, e := refine.Equal(startingAt(s, p), startingAt(s, q))
				if is != (classes[p] == classes[q]) || e != api.OK {
					t.Errorf("Classes(%s) = %v: the states %d and %d have the same ones: %v %d", show(s), classes, q, p, is, e)
				}
				if is {
					together++
				} else {
					apart++
				}
			}
		}
	}
	if together < 1000 || apart < 1000 {
		t.Errorf("too much alike: %d pairs have the same implementations, %d do not", together, apart)
	}
}

// TestClassesOfCopies has states that are copies of others.
func TestClassesOfCopies(t *testing.T) {
	r := source()
	for _, s := range specs() {
		own, _ := least.Classes(s)
		b, origin := blown(r, s, 3*len(s.States))
		got, _ := least.Classes(rewritten(r, b))
		for p := range origin {
			for q := range p {
				if (got[p] == got[q]) != (own[origin[p]] == own[origin[q]]) {
					t.Fatalf("%s, blown to %s: the classes %v, which were %v", show(s), show(b), got, own)
				}
			}
		}
	}
}

// TestClassesLookAtEachSet has two states that differ in one set alone.
func TestClassesLookAtEachSet(t *testing.T) {
	for set := range 1 << api.MaxActions {
		s := full(letters, 3, func(int, int) int { return 0 })
		s.States[2].Accept = slices.Delete(s.States[2].Accept, set, set+1)
		if got, e := least.Classes(s); !slices.Equal(got, []int{0, 0, 1}) || e != api.OK {
			t.Errorf("without set %d: %v %d", set, got, e)
		}
		s.States[1].Accept, s.States[2].Accept = sets(set), sets(set)
		if got, e := least.Classes(s); !slices.Equal(got, []int{0, 1, 1}) || e != api.OK {
			t.Errorf("with only set %d: %v %d", set, got, e)
		}
	}
}

// TestClassesLookAtEachAction has two states that differ in where one action
// leads, which are all in their sets.
func TestClassesLookAtEachAction(t *testing.T) {
	for count := 1; count <= api.MaxActions; count++ {
		for action := range count {
			s := full(letters[:2*count-1], 4, func(int, int) int { return 3 })
			s.States[3].Accept = sets(0)
			s.States[2].Next[action] = 2
			if got, e := least.Classes(s); !slices.Equal(got, []int{0, 0, 1, 2}) || e != api.OK {
				t.Errorf("action %d of %d: %v %d", action, count, got, e)
			}
		}
	}
}
