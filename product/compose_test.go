package product_test

import (
	"slices"
	"testing"

	"makeweight/api"
	"makeweight/product"
	"makeweight/spec"
)

// P8.1: Compose.

func checkCompose(t *testing.T, s, u api.Spec) api.Spec {
	t.Helper()
	c, e := product.Compose(s, u)
	taskOf(s.Actions, s, u).check(t, show("composition of ", s, " and ", u), c, e)
	return c
}

// An example is two specifications and their composition.
type example struct {
	s, t, want string
}

func compositions() []example {
	const (
		hollow = "spec a b;0: ->"
		whole  = "spec a b;0: {} {a} {b} {a,b} -> a 0 b 0"
		choice = "spec a b;0: {a} {b} -> a 0 b 0"
	)
	return []example{
		{may, always, may}, {may, may, may}, {always, always, always},
		{choice, choice, "spec a b;0: {} {a} {b} -> a 0 b 0"}, {whole, whole, whole}, {whole, choice, "spec a b;0: {} {a} {b} -> a 0 b 0"},
		{"spec a b;0: {a,b} -> a 0 b 0", choice, choice}, {"spec a b;0: {a} {a,b} -> a 0 b 0", "spec a b;0: {b} {a,b} -> a 0 b 0", whole},
		// Neither accepts what both offer together.
		{"spec a b c;0: {a,b} -> a 0 b 0", "spec a b c;0: {b,c} -> b 0 c 0", "spec a b c;0: {b} -> b 0"},
		{"spec a b c;0: {a,b} {a,c} -> a 0 b 0 c 0", "spec a b c;0: {b,c} {a,b,c} -> a 0 b 0 c 0", "spec a b c;0: {b} {a,b} {c} {a,c} -> a 0 b 0 c 0"},
		// No two sets share an action: at once, or after an action.
		{"spec a b;0: {a} -> a 0", "spec a b;0: {b} -> b 0", "spec a b;0: {} ->"}, {"spec a b;0: {} {a} -> a 0", "spec a b;0: {} {b} -> b 0", "spec a b;0: {} ->"},
		{"spec a b;0: {a} -> a 1;1: {a} -> a 0", "spec a b;0: {a} -> a 1;1: {b} -> b 0", "spec a b;0: {a} -> a 1;1: {} ->"},
		{"spec a b;0: {} ->", whole, "spec a b;0: {} ->"}, {"spec a b;0: {} ->", "spec a b;0: {a,b} -> a 0 b 0", "spec a b;0: {} ->"},
		// Several states of the one go with a state of the other.
		{"spec a b;0: {a} -> a 1;1: {b} -> b 0", "spec a b;0: {a,b} -> a 0 b 0", "spec a b;0: {a} -> a 1;1: {b} -> b 0"},
		{"spec a;0: {a} -> a 1;1: {} {a} -> a 0", "spec a;0: {a} -> a 1;1: {a} -> a 2;2: {} {a} -> a 0", "spec a;0: {a} -> a 1;1: {} {a} -> a 2;2: {} {a} -> a 3;3: {} {a} -> a 4;4: {a} -> a 5;5: {} {a} -> a 0"},
		// None, what is hollow without being None, and All.
		{hollow, whole, hollow}, {whole, hollow, hollow}, {hollow, hollow, hollow}, {hollow, "spec a b;0: {} ->", hollow}, {"spec a b;0: {} ->", hollow, hollow},
		{"spec a b;0: {a} -> a 1;1: -> a 0 b 1", choice, hollow}, {choice, "spec a b;0: {a} {b} -> a 1 b 1;1: {a} -> a 2;2: ->", hollow},
		// No system that satisfies the first one offers a set that leads to
		// its hollow state, also where the other one would not go there.
		{"spec a b c;0: {a,b} {c} -> a 0 b 1 c 0;1: ->", "spec a b c;0: {a,c} -> a 0 c 0", "spec a b c;0: {c} -> c 0"},
		{"spec a b c;0: {a,c} -> a 0 c 0", "spec a b c;0: {a,b} {c} -> a 0 b 1 c 0;1: {a} -> a 2;2: -> a 1", "spec a b c;0: {c} -> c 0"},
		{"spec a b;0: {a} {b} -> a 1 b 0;1: ->", whole, "spec a b;0: {} {b} -> b 0"}, {"spec a b;0: {a} {b} -> a 1 b 0;1: ->", "spec a b;0: {a} {b} -> a 0 b 1;1: ->", "spec a b;0: {} ->"},
		// States that are not reached: in the one, or only together.
		{"spec a b;0: {a} -> a 0;1: {b} -> a 2 b 0;2: {} ->", "spec a b;0: {a} {b} -> a 2 b 1;1: ->;2: {a} -> a 0", "spec a b;0: {a} -> a 0"},
		{"spec a b;0: {a} {b} -> a 0 b 1;1: {b} -> b 1", "spec a b;0: {a} -> a 0;1: {a,b} -> a 0 b 0", "spec a b;0: {} {a} -> a 0"},
		// Actions that lead on, but are in no set.
		{"spec a b;0: {b} -> a 0 b 0", "spec a b;0: {a} {b} -> a 1 b 0;1: {a,b} -> a 0 b 0", "spec a b;0: {} {b} -> b 0"},
		{"spec;0: {} ->", "spec;0: {} ->", "spec;0: {} ->"}, {"spec;0: {} ->", "spec;0: ->", "spec;0: ->"}, {"spec;0: ->", "spec;0: ->", "spec;0: ->"},
	}
}

func TestComposeOfExamples(t *testing.T) {
	for _, c := range compositions() {
		equal(t, show(c), checkCompose(t, of(c.s), of(c.t)), of(c.want))
		equal(t, show(c), checkCompose(t, of(c.t), of(c.s)), of(c.want))
	}
}

func TestComposeOfMany(t *testing.T) {
	var counts struct{ none, wide, stopped, fresh, other int }
	for _, c := range couples() {
		s := checkCompose(t, c[0], c[1])
		first := s.States[0].Accept
		switch {
		case len(first) == 0:
			counts.none++
		case slices.ContainsFunc(first, func(set int) bool {
			return set > 0 && !slices.Contains(c[0].States[0].Accept, set) && !slices.Contains(c[1].States[0].Accept, set)
		}):
			counts.fresh++
		case size(s) > max(len(c[0].States), len(c[1].States)):
			counts.wide++
		case slices.Equal(first, sets(0)):
			counts.stopped++
		default:
			counts.other++
		}
	}
	if counts.none < 50 || counts.wide < 50 || counts.stopped < 50 || counts.fresh < 50 || counts.other < 50 {
		t.Errorf("too few of a kind: %v", counts)
	}
}

// small returns pairs of specifications with few actions and states.
func small() [][2]api.Spec {
	var l [][2]api.Spec
	for _, c := range couples() {
		if len(c[0].Actions) <= 2 && len(c[0].States) <= 4 && len(c[1].States) <= 4 {
			l = append(l, c)
		}
	}
	return l
}

// products returns the products of systems that show what s and u allow.
func products(s, u api.Spec) []api.System {
	var l []api.System
	for _, m := range freest(s) {
		for _, n := range freest(u) {
			l = append(l, multiplied(m, n))
		}
	}
	return l
}

// allSatisfy reports whether all systems of a list satisfy s.
func allSatisfy(l []api.System, s api.Spec) bool {
	return !slices.ContainsFunc(l, func(m api.System) bool { return !satisfies(m, s) })
}

// loosened returns specifications close to s: with one set more, or less, in a
// state, or one of its actions leading to another state.
func loosened(s api.Spec) []api.Spec {
	var l []api.Spec
	for number := range s.States {
		for set := range 1 << len(s.Actions) {
			c := clone(s)
			state := &c.States[number]
			place, found := slices.BinarySearch(state.Accept, set)
			switch {
			case found:
				state.Accept = slices.Delete(state.Accept, place, place+1)
			case canLead(*state, set, func(to int) bool { return to >= 0 }):
				state.Accept = slices.Insert(state.Accept, place, set)
			}
			l = append(l, c)
		}
		for action := range s.Actions {
			c := clone(s)
			c.States[number].Next[action] = max(0, c.States[number].Next[action]-1)
			l = append(l, c)
		}
	}
	return l
}

// leastOf fails the test unless a specification is refined exactly by those that
// the systems show: they satisfy it, and it refines each one that they satisfy.
func leastOf(t *testing.T, what string, l []api.System, s api.Spec, others ...api.Spec) (above, beside int) {
	t.Helper()
	if !allSatisfy(l, s) {
		t.Errorf("%s: not all products satisfy %s", what, show(s))
	}
	for _, other := range append(loosened(s), others...) {
		is := allSatisfy(l, other)
		if refines(s, other) != is {
			t.Errorf("%s: all products satisfy %s: %v, but %s does not do the same", what, show(other), is, show(s))
		}
		if is {
			above++
		} else {
			beside++
		}
	}
	return above, beside
}

func TestComposeIsLeast(t *testing.T) {
	above, beside := 0, 0
	r := source()
	for _, c := range small() {
		s, e := product.Compose(c[0], c[1])
		if e != api.OK {
			t.Fatalf("%s: error %d", show(c), e)
		}
		other := random(r, len(s.Actions), 2, 8)
		other.Actions = s.Actions
		a, b := leastOf(t, show(c), products(c[0], c[1]), s, c[0], c[1], other)
		above, beside = above+a, beside+b
	}
	if above < 1000 || beside < 1000 {
		t.Errorf("only %d are above compositions, %d are not", above, beside)
	}
}

// TestProductsSatisfyTheComposition takes products of systems that were not made
// for the specifications.
func TestProductsSatisfyTheComposition(t *testing.T) {
	r := source()
	both := 0
	for range 3000 {
		actions := 1 + r.IntN(2)
		m, n := randomSystem(r, actions, 1+r.IntN(3), 3), randomSystem(r, actions, 1+r.IntN(3), 3)
		s, u := random(r, actions, 1+r.IntN(3), 12), random(r, actions, 1+r.IntN(3), 12)
		c, e := product.Compose(s, u)
		if satisfies(m, s) && satisfies(n, u) {
			both++
			if e != api.OK || !satisfies(multiplied(m, n), c) {
				t.Errorf("%s satisfies %s and %s satisfies %s, but their product not %s %d", show(m), show(s), show(n), show(u), show(c), e)
			}
		}
	}
	if both < 300 {
		t.Errorf("only %d pairs of systems", both)
	}
}

// TestCompositionHasMoreThanProducts has a system that satisfies a composition,
// but is not a product of systems that satisfy both.
func TestCompositionHasMoreThanProducts(t *testing.T) {
	s, u := of("spec a b;0: {a} -> a 1;1: {a} {b} -> a 1 b 1"), of("spec a b;0: {a,b} -> a 0 b 0")
	c := checkCompose(t, s, u)
	for text, want := range map[string]bool{
		"system a b;0: a 1;1: a 1": true, "system a b;0: a 1;1: b 1": true, "system a b;0: a 1 a 2;1: a 1;2: b 1": true,
		"system a b;0: a 1;1: a 1 b 1": false, "system a b;0: a 1;1:": false, "system a b;0: b 1;1: a 1": false, "system a b;0: a 1 a 2;1: a 1;2:": false,
	} {
		if got := satisfies(run(text), c); got != want {
			t.Errorf("%q satisfies the composition: %v", text, got)
		}
	}
}

func TestComposeRefusesWhatIsNotValid(t *testing.T) {
	for why, bad := range badSpecs() {
		for _, other := range []api.Spec{all("a"), all("a b"), none(""), none("a"), ring(api.MaxStates), bad} {
			c, e := product.Compose(bad, other)
			refused(t, why, c, e, api.ErrSpec)
			c, e = product.Compose(other, bad)
			refused(t, why, c, e, api.ErrSpec)
		}
		for other, worse := range badSpecs() {
			c, e := product.Compose(bad, worse)
			refused(t, why+" and "+other, c, e, api.ErrSpec)
		}
	}
}

// otherwise returns specifications, no two of which have the same actions.
func otherwise() []api.Spec {
	return []api.Spec{all(""), all("a"), all("b"), all("a b"), all("b a"), all("a b c"), none("d"), of(may), together("c"), full("A", 500, func(state, _ int) int { return (state + 1) % 500 })}
}

func TestComposeRefusesOtherActions(t *testing.T) {
	for i, s := range otherwise() {
		for k, u := range otherwise() {
			if i == k {
				continue
			}
			c, e := product.Compose(s, u)
			refused(t, "other actions", c, e, api.ErrActions)
		}
	}
	// So do hollow ones, and those that are too large together.
	big := ring(499)
	big.Actions = []string{"b"}
	for _, c := range [][2]api.Spec{{ring(500), big}, {none("a"), none("b")}, {none("a"), big}, {big, none("a b")}} {
		s, e := product.Compose(c[0], c[1])
		refused(t, "other actions", s, e, api.ErrActions)
	}
}

// TestComposeOfValidEmptyLists has nil and empty lists, which are the same.
func TestComposeOfValidEmptyLists(t *testing.T) {
	for _, s := range []api.Spec{{Actions: []string{}, States: []api.State{{Accept: []int{0}, Next: []int{}}}}, {States: []api.State{{Accept: []int{0}}}}, {Actions: []string{}, States: []api.State{{Accept: []int{}}}}} {
		for _, u := range []api.Spec{all(""), none(""), {States: []api.State{{Next: []int{}}}}} {
			checkCompose(t, s, u)
			if c := checkCompose(t, u, s); spec.Check(c) != api.OK {
				t.Errorf("%s is not valid", show(c))
			}
		}
	}
}
