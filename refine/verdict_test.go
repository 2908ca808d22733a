package refine_test

import (
	"slices"
	"testing"

	"makeweight/api"
	"makeweight/refine"
	"makeweight/spec"
)

// P5.1 and P5.2: Refines and Depth.

const (
	may    = "spec coin tea;0: {coin} -> coin 1;1: {} {tea} -> tea 0"
	always = "spec coin tea;0: {coin} -> coin 1;1: {tea} -> tea 0"
	never  = "spec coin tea;0: {coin} -> coin 1;1: {} ->"
)

func TestRefinesOfExamples(t *testing.T) {
	// refines stands for that s refines t; other numbers are the depth.
	const refines = -1
	for _, c := range []struct {
		s, t string
		want int
	}{
		// Example 1 of the chapter.
		{"spec a;0: {a} -> a 0", "spec a;0: {} {a} -> a 0", refines}, {"spec a;0: {} {a} -> a 0", "spec a;0: {a} -> a 0", 0},
		{always, may, refines}, {may, always, 1}, {never, may, refines}, {may, never, 1}, {always, never, 1}, {never, always, 1}, {may, may, refines},
		// A set that is not accepted, of more, fewer and other actions.
		{"spec a b;0: {a} -> a 0", "spec a b;0: {a,b} -> a 0 b 0", 0}, {"spec a b;0: {a,b} -> a 0 b 0", "spec a b;0: {a} {b} -> a 0 b 0", 0},
		{"spec a b;0: {a} -> a 0", "spec a b;0: {b} -> b 0", 0}, {"spec a b;0: {a} {b} -> a 0 b 0", "spec a b;0: {} {a} {a,b} -> a 0 b 0", 0},
		{"spec a b;0: {} {a} {b} {a,b} -> a 0 b 0", "spec a b;0: {} {a} {b} -> a 0 b 0", 0},
		{"spec a b;0: {a} {a,b} -> a 0 b 0", "spec a b;0: {} {a} {b} {a,b} -> a 0 b 0", refines},
		// The same in other states, and more of them on either side.
		{"spec a;0: {a} -> a 1;1: {a} -> a 0", "spec a;0: {a} -> a 0", refines}, {"spec a;0: {a} -> a 0", "spec a;0: {a} -> a 1;1: {a} -> a 2;2: {a} -> a 1", refines},
		{"spec a;0: {a} -> a 2;1: {} ->;2: {a} -> a 0", "spec a;0: {a} -> a 1;1: {a} -> a 0", refines},
		// Longer words: with one action, and with the other one of two.
		{"spec a;0: {a} -> a 1;1: {a} -> a 2;2: {} ->", "spec a;0: {a} -> a 0", 2}, {"spec a;0: {a} -> a 1;1: {a} -> a 2;2: {} {a} -> a 2", "spec a;0: {a} -> a 0", 2},
		{"spec a b;0: {a,b} -> a 0 b 1;1: {a,b} -> a 0 b 2;2: {a} -> a 0", "spec a b;0: {a,b} -> a 0 b 0", 2},
		// Rings of two and of three states fail after five steps.
		{"spec a;0: {a} -> a 1;1: {} {a} -> a 0", "spec a;0: {} {a} -> a 1;1: {} {a} -> a 2;2: {a} -> a 0", 5},
		// The shortest of several words: by the last action, and though the
		// state of s is met in other ways before.
		{"spec a b;0: {a,b} -> a 1 b 2;1: {a} -> a 2;2: {} ->", "spec a b;0: {a,b} -> a 1 b 2;1: {a} -> a 1;2: {b} -> b 0", 1},
		{"spec a b;0: {a,b} -> a 1 b 0;1: {a} -> a 1", "spec a b;0: {a,b} -> a 1 b 2;1: {a} -> a 3;2: {a,b} -> a 4 b 2;3: {a} -> a 5;4: {b} -> b 4;5: {} ->", 2},
		// What cannot be reached does not matter.
		{"spec a;0: {a} -> a 0;1: {} ->", "spec a;0: {a} -> a 0;1: ->", refines}, {"spec a b;0: {a} -> a 0 b 1;1: {b} -> b 1", "spec a b;0: {a} -> a 0 b 0", refines},
		{"spec a b;0: {a} -> a 0 b 1;1: {b} -> b 1", "spec a b;0: {a} -> a 0", refines},
		// Without actions.
		{"spec;0: {} ->", "spec;0: {} ->", refines}, {"spec;0: {} ->", "spec;0: ->", 0}, {"spec;0: ->", "spec;0: {} ->", refines}, {"spec;0: ->", "spec;0: ->", refines},
		{"spec;0: {} ->;1: ->", "spec;0: {} ->", refines},
		// s is hollow, at once or by a ladder.
		{"spec a;0: -> a 0", "spec a;0: {} ->", refines}, {"spec a;0: {a} -> a 1;1: ->", "spec a;0: {} ->", refines}, {"spec a;0: {a} -> a 1;1: ->", "spec a;0: ->", refines},
		{"spec a b;0: {a} {b} -> a 1 b 2;1: {a,b} -> a 0 b 2;2: ->", "spec a b;0: -> a 0 b 0", refines},
		// t is hollow: the depth is that at which its state accepts nothing
		// that s does.
		{"spec a;0: {a} -> a 0", "spec a;0: ->", 0}, {"spec a;0: {a} -> a 0", "spec a;0: {a} -> a 1;1: ->", 1}, {"spec a;0: {a} -> a 0", "spec a;0: {a} -> a 1;1: {a} -> a 2;2: ->", 2},
		{"spec a;0: {} {a} -> a 0", "spec a;0: {a} -> a 1;1: ->", 0}, {"spec a;0: {a} -> a 1;1: ->", "spec a;0: {a} -> a 1;1: {a} -> a 2;2: ->", refines},
		// What is lost through a hollow state does not show that s fails: the
		// whole set is lost, its other actions lead nowhere then.
		{"spec a b;0: {a} {b} -> a 1 b 0;1: ->", "spec a b;0: {b} -> b 0", refines}, {"spec a b;0: {b} {a,b} -> a 1 b 0;1: ->", "spec a b;0: {b} -> b 0", refines},
		{"spec a b;0: {a} {a,b} -> a 0 b 1;1: ->", "spec a b;0: {} {a} {b} -> a 0 b 0", refines}, {"spec a b;0: {} {a,b} -> a 1 b 2;1: {b} -> b 1;2: ->", "spec a b;0: {} {a,b} -> a 0 b 0", refines},
		{"spec a b;0: {a} {b} -> a 1 b 0;1: {a} -> a 2;2: ->", "spec a b;0: {b} -> b 0", refines},
		// What is left then still does.
		{"spec a b;0: {a} {b} {a,b} -> a 1 b 0;1: ->", "spec a b;0: {a} -> a 0", 0}, {"spec a b;0: {a} {b} -> a 1 b 2;1: ->;2: {} ->", "spec a b;0: {b} -> b 0", 1},
		// A set that t accepts and whose action leads to a hollow state of t.
		{"spec a b;0: {a} {b} -> a 0 b 0", "spec a b;0: {a} {b} -> a 1 b 0;1: ->", 1}, {"spec a b;0: {b} -> b 0", "spec a b;0: {a} {b} -> a 1 b 0;1: ->", refines},
	} {
		checkVerdict(t, couple{of(c.s), of(c.t)}, max(c.want, 0), c.want != refines)
	}
}

func TestRefinesOfRandomSpecifications(t *testing.T) {
	var depths [5]int
	hollow, lost, holds := 0, 0, 0
	for _, c := range couples() {
		depth, fails := depthOf(t, c.s, c.t)
		v := checkVerdict(t, c, depth, fails)
		switch {
		case fails:
			depths[min(depth, 4)]++
		case len(v.Proof.Pairs) == 0:
			hollow++
		case len(v.Proof.Ladder) > 0:
			lost++
		default:
			holds++
		}
	}
	if slices.Min(depths[:4]) < 20 || hollow < 50 || lost < 50 || holds < 100 {
		t.Errorf("verdicts are too much alike: %v do not refine, %d are hollow, %d in part, %d not", depths, hollow, lost, holds)
	}
}

// smallSpecs returns all specifications with one action and at most two states
// whose other actions and sets are not alike.
func smallSpecs() []api.Spec {
	var l []api.Spec
	for count := 1; count <= 2; count++ {
		states := []api.State{at(nil, -1), at(sets(0), -1)}
		for to := range count {
			states = append(states, at(nil, to), at(sets(0), to), at(sets(1), to), at(sets(0, 1), to))
		}
		for _, first := range states {
			if count == 1 {
				l = append(l, build("a", first))
				continue
			}
			for _, second := range states {
				l = append(l, build("a", first, second))
			}
		}
	}
	return l
}

func TestRefinesOfSmallSpecifications(t *testing.T) {
	small := smallSpecs()
	for _, s := range small {
		for _, u := range small {
			depth, fails := depthOf(t, s, u)
			checkVerdict(t, couple{s, u}, depth, fails)
		}
	}
}

// TestPairsOfRefines has states with which no pair is needed.
func TestPairsOfRefines(t *testing.T) {
	c := couple{of("spec a b;0: {b} {a,b} -> a 1 b 2;1: ->;2: {} ->"), of("spec a b;0: {} {b} -> b 1;1: {} ->;2: ->")}
	v, _ := refine.Refines(c.s, c.t)
	want := refine.Proof{Ladder: []int{1}, Pairs: pairs([2]int{0, 0}, [2]int{2, 1})}
	if !slices.Equal(v.Proof.Ladder, want.Ladder) || !slices.Equal(v.Proof.Pairs, want.Pairs) {
		t.Errorf("Refines(%s) = %s, want %s", show(c), show(v), show(want))
	}
}

// P5.2: Equal.

func TestEqualOfExamples(t *testing.T) {
	for _, c := range []struct {
		s, t string
		want bool
	}{
		{may, may, true}, {may, always, false}, {"spec a;0: {a} -> a 0", "spec a;0: {a} -> a 1;1: {a} -> a 0", true}, {"spec a;0: {a} -> a 0", "spec a;0: {a} -> a 1;1: {a} -> a 2;2: {} ->", false},
		{"spec a b;0: {a} {b} -> a 1 b 0;1: ->", "spec a b;0: {b} -> b 0", true}, {"spec a b;0: {a} {b} -> a 1 b 0;1: ->", "spec a b;0: {b} -> a 0 b 0", true},
		{"spec a;0: ->", "spec a;0: {a} -> a 1;1: ->", true}, {"spec a;0: ->", "spec a;0: {} ->", false}, {"spec;0: {} ->", "spec;0: {} ->;1: ->", true}, {"spec;0: ->", "spec;0: {} ->", false},
	} {
		checkEqual(t, couple{of(c.s), of(c.t)}, c.want)
	}
}

// checkEqual fails the test unless Equal answers as expected, in both orders.
func checkEqual(t *testing.T, c couple, want bool) {
	t.Helper()
	for _, d := range []couple{c, {c.t, c.s}} {
		if is, e := refine.Equal(d.s, d.t); is != want || e != api.OK {
			t.Errorf("Equal(%s) = %v %d, want %v", show(d), is, e, want)
		}
	}
}

func TestEqualOfRandomSpecifications(t *testing.T) {
	var counts [4]int // of whether s refines t, and whether t refines s
	for _, c := range couples() {
		_, loses := depthOf(t, c.s, c.t)
		_, gains := depthOf(t, c.t, c.s)
		checkEqual(t, c, !loses && !gains)
		kind := 0
		if !loses {
			kind++
		}
		if !gains {
			kind += 2
		}
		counts[kind]++
	}
	if slices.Min(counts[:]) < 50 {
		t.Errorf("couples are too much alike: %v", counts)
	}
}

// P5.4: order.

func TestAllAndNone(t *testing.T) {
	for _, c := range couples() {
		all, _ := spec.All(c.s.Actions)
		none, _ := spec.None(c.s.Actions)
		checkVerdict(t, couple{c.s, all}, 0, false)
		checkVerdict(t, couple{none, c.s}, 0, false)
		checkVerdict(t, couple{all, none}, 0, true)
		hollow := hollowOf(c.s)[0]
		checkVerdict(t, couple{c.s, none}, 0, !hollow)
		checkEqual(t, couple{c.s, none}, hollow)
	}
	for n := range api.MaxActions + 1 {
		all, _ := spec.All(build(letters).Actions[:n])
		none, _ := spec.None(build(letters).Actions[:n])
		checkVerdict(t, couple{all, all}, 0, false)
		checkVerdict(t, couple{none, none}, 0, false)
		checkVerdict(t, couple{none, all}, 0, false)
		checkVerdict(t, couple{all, none}, 0, true)
	}
}

func TestRefinementIsReflexive(t *testing.T) {
	for _, c := range couples() {
		checkVerdict(t, couple{c.s, c.s}, 0, false)
		checkEqual(t, couple{c.s, clone(c.s)}, true)
	}
}

func TestRefinementIsTransitive(t *testing.T) {
	r := source()
	found := 0
	for range 1000 {
		actions := r.IntN(4)
		u := random(r, actions, 1+r.IntN(4), 2+r.IntN(8))
		middle := within(r, u, 1+r.IntN(4), 3+r.IntN(10))
		s := within(r, middle, 1+r.IntN(4), 3+r.IntN(10))
		first, _ := refine.Refines(s, middle)
		second, _ := refine.Refines(middle, u)
		if !first.Holds || !second.Holds {
			continue
		}
		if v, e := refine.Refines(s, u); !v.Holds || e != api.OK {
			t.Errorf("%s, %s and %s: %s %d", show(s), show(middle), show(u), show(v), e)
		}
		if !hollowOf(s)[0] {
			found++
		}
	}
	if found < 100 {
		t.Errorf("only %d chains", found)
	}
}
