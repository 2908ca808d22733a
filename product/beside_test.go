package product_test

import (
	"testing"

	"makeweight/api"
	"makeweight/product"
	"makeweight/spec"
)

// P8.3: Beside.

func checkBeside(t *testing.T, m api.System, s api.Spec) api.Spec {
	t.Helper()
	b, e := product.Beside(m, s)
	taskOf(m.Actions, s).beside(m).check(t, show(m, " beside ", s), b, e)
	return b
}

func TestBesideOfExamples(t *testing.T) {
	const (
		choice = "spec a b;0: {a} {b} -> a 0 b 0"
		both   = "spec a b;0: {a,b} -> a 0 b 0"
		whole  = "spec a b;0: {} {a} {b} {a,b} -> a 0 b 0"
		stop   = "spec a b;0: {} ->"
		no     = "spec a b;0: ->"
		fork   = "system a b;0: a 1 a 2;1: a 1;2: b 2"
	)
	for _, c := range []struct{ m, s, want string }{
		// A system that satisfies the specification, and one that does not.
		{"system coin tea;0: coin 1;1: tea 0", may, may}, {"system coin tea;0: coin 0 tea 0", may, may}, {"system coin tea;0: coin 1;1:", may, "spec coin tea;0: {coin} -> coin 1;1: {} ->"},
		{"system coin tea;0: tea 0", may, "spec coin tea;0: {} ->"}, {"system coin tea;0: coin 1;1: tea 0", always, always}, {"system coin tea;0: coin 1;1: coin 1", always, "spec coin tea;0: {coin} -> coin 1;1: {} ->"},
		{"system a b;0: a 0", choice, "spec a b;0: {} {a} -> a 0"}, {"system a b;0: a 0 b 0", choice, choice}, {"system a b;0:", choice, stop}, {"system a b;0:", whole, stop},
		{"system a b;0: a 0", "spec a b;0: {b} -> b 0", stop}, {"system a b;0: a 1;1: b 0", both, "spec a b;0: {a} -> a 1;1: {b} -> b 0"}, {"system a b;0: a 1;1: b 0", whole, "spec a b;0: {} {a} -> a 1;1: {} {b} -> b 0"},
		// Several edges of one action from one state.
		{fork, both, "spec a b;0: {a} -> a 1;1: {a} {b} -> a 2 b 3;2: {a} -> a 2;3: {b} -> b 3"}, {fork, whole, "spec a b;0: {} {a} -> a 1;1: {} {a} {b} -> a 2 b 3;2: {} {a} -> a 2;3: {} {b} -> b 3"},
		{"system a b;0: a 0 a 1;1: b 0", both, "spec a b;0: {a} -> a 1;1: {a} {b} -> a 1 b 0"}, {"system a b;0: a 0 a 1;1:", both, "spec a b;0: {a} -> a 1;1: {} {a} -> a 1"},
		{fork, "spec a b;0: {a} -> a 1;1: {b} -> b 1", "spec a b;0: {a} -> a 1;1: {} {b} -> b 2;2: {b} -> b 2"}, {"system a b;0: a 0 a 1;1: a 0 b 1", "spec a b;0: {a} -> a 0", "spec a b;0: {a} -> a 0"},
		{"system a b;0: a 1 a 2;1: a 1 b 2;2: a 1 b 2", "spec a b;0: {a} -> a 1;1: {a} {a,b} -> a 1 b 1", "spec a b;0: {a} -> a 1;1: {a} {a,b} -> a 1 b 1"},
		// States of the system that cannot be reached, also not together.
		{"system a b;0: a 0;1: a 0 b 1", both, "spec a b;0: {a} -> a 0"}, {"system a b;0: a 2;1: b 1;2: a 2", both, "spec a b;0: {a} -> a 0"}, {"system a b;0: a 0 b 1;1:", "spec a b;0: {a} -> a 0 b 1;1: {b} -> b 1", "spec a b;0: {a} -> a 0"},
		// Hollow states, and states of the specification that are not reached.
		{"system a b;0: a 0 b 0", "spec a b;0: {a} {b} -> a 1 b 0;1: ->", "spec a b;0: {b} -> b 0"}, {"system a b;0: a 0", "spec a b;0: {b} {a,b} -> a 0 b 1;1: ->", no}, {"system a b;0: a 0", "spec a b;0: {a} {a,b} -> a 0 b 1;1: ->", "spec a b;0: {a} -> a 0"},
		{"system a b;0: a 0 b 0", "spec a b;0: {a} -> a 0;1: {b} -> a 1 b 1", "spec a b;0: {a} -> a 0"}, {"system a b;0: a 0", "spec a b;0: {b} -> a 1 b 0;1: {a} -> a 1", stop},
		// None, and what is hollow without being None.
		{"system a b;0: a 0 b 0", no, no}, {"system a b;0:", no, no}, {fork, no, no}, {fork, "spec a b;0: {a} -> a 1;1: ->", no}, {"system a b;0:", "spec a b;0: {a} -> a 1;1: {b} -> b 2;2: ->", no},
		{"system;0:", "spec;0: {} ->", "spec;0: {} ->"}, {"system;0:;1:", "spec;0: ->;1: {} ->", "spec;0: ->"},
	} {
		equal(t, show(c), checkBeside(t, run(c.m), of(c.s)), of(c.want))
	}
}

// neighbors returns systems and specifications with the same actions. Many of
// the systems have several edges of one action from one state, or states that
// cannot be reached.
func neighbors() ([]api.System, []api.Spec) {
	var systems []api.System
	var specs []api.Spec
	r := source()
	for range 500 {
		actions := r.IntN(4)
		systems = append(systems, randomSystem(r, actions, 1+r.IntN(4), 2+r.IntN(4)), randomSystem(r, actions, 1+r.IntN(3), 2+r.IntN(4)))
		specs = append(specs, random(r, actions, 1+r.IntN(4), 2+r.IntN(5)), sparse(r, actions, 1+r.IntN(4)))
	}
	return systems, specs
}

func TestBesideOfMany(t *testing.T) {
	var counts struct{ none, satisfied, wide, other int }
	systems, specs := neighbors()
	for i, m := range systems {
		s := specs[i]
		b := checkBeside(t, m, s)
		switch {
		case len(b.States[0].Accept) == 0:
			counts.none++
		case satisfies(m, s):
			counts.satisfied++
		case size(b) > len(m.States)*len(s.States):
			counts.wide++
		case size(b) > 1:
			counts.other++
		}
	}
	if counts.none < 100 || counts.satisfied < 100 || counts.wide < 5 || counts.other < 100 {
		t.Errorf("too few of a kind: %v", counts)
	}
}

// besides returns the products of m with systems that show what s allows.
func besides(m api.System, s api.Spec) []api.System {
	var l []api.System
	for _, n := range freest(s) {
		l = append(l, multiplied(m, n))
	}
	return l
}

func TestBesideIsLeast(t *testing.T) {
	above, beside := 0, 0
	systems, specs := neighbors()
	for i, m := range systems[:600] {
		s := specs[i]
		if len(s.Actions) > 2 {
			continue
		}
		b, e := product.Beside(m, s)
		if e != api.OK {
			t.Fatalf("%s beside %s: error %d", show(m), show(s), e)
		}
		x, y := leastOf(t, show(m, " beside ", s), besides(m, s), b, s)
		above, beside = above+x, beside+y
	}
	if above < 500 || beside < 500 {
		t.Errorf("only %d are above, %d are not", above, beside)
	}
}

// TestBesideIsSatisfied takes products with systems that were not made for the
// specification.
func TestBesideIsSatisfied(t *testing.T) {
	r := source()
	number := 0
	for range 2000 {
		actions := 1 + r.IntN(2)
		m, n, s := randomSystem(r, actions, 1+r.IntN(4), 3), randomSystem(r, actions, 1+r.IntN(3), 3), random(r, actions, 1+r.IntN(3), 9)
		if !satisfies(n, s) {
			continue
		}
		number++
		b, e := product.Beside(m, s)
		if e != api.OK || !satisfies(multiplied(m, n), b) || !satisfies(multiplied(n, m), b) {
			t.Errorf("%s satisfies %s, but its product with %s not %s %d", show(n), show(s), show(m), show(b), e)
		}
	}
	if number < 300 {
		t.Errorf("only %d systems", number)
	}
}

// TestBesideAndCompose: what a system does beside a specification is what its own
// specification does, if there is one, and at most what each does that it
// satisfies.
func TestBesideAndCompose(t *testing.T) {
	single, within := 0, 0
	systems, specs := neighbors()
	for i, m := range systems {
		s, other := specs[i], specs[i^1]
		b := checkBeside(t, m, s)
		if own, is, _ := spec.Of(m); is {
			equal(t, show(m, " beside ", s), b, checkCompose(t, own, s))
			single++
		}
		if satisfies(m, other) {
			if c := checkCompose(t, other, s); !refines(b, c) {
				t.Errorf("%s satisfies %s, but does not fit beside %s: %s does not refine %s", show(m), show(other), show(s), show(b), show(c))
			}
			within++
		}
	}
	if single < 100 || within < 50 {
		t.Errorf("only %d systems are single, %d satisfy another one", single, within)
	}
}

func TestBesideRefusesWhatIsNotValid(t *testing.T) {
	good := run("system a;0: a 0")
	for why, bad := range badSystems() {
		specs := badSpecs()
		specs["All"], specs["None"], specs["of others"] = all("a"), none("a"), all("a b")
		// ErrSystem comes before ErrSpec and ErrActions.
		for other, s := range specs {
			b, e := product.Beside(bad, s)
			refused(t, why+" beside "+other, b, e, api.ErrSystem)
		}
	}
	for why, bad := range badSpecs() {
		for _, m := range []api.System{good, run("system;0:"), run("system a b;0: b 0"), run("system b;0:")} {
			b, e := product.Beside(m, bad)
			refused(t, "beside "+why, b, e, api.ErrSpec)
		}
	}
}

func TestBesideRefusesOtherActions(t *testing.T) {
	for i, s := range otherwise() {
		for k, u := range otherwise() {
			if i == k {
				continue
			}
			for _, states := range []int{1, api.MaxNodes} {
				b, e := product.Beside(api.System{Actions: s.Actions, States: make([][]api.Edge, states)}, u)
				refused(t, "other actions", b, e, api.ErrActions)
			}
		}
	}
}
