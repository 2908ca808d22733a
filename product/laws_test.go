package product_test

import (
	"testing"

	"makeweight/api"
	"makeweight/meet"
	"makeweight/product"
)

// P8.5, P8.6 and W2.

// composed returns the composition of two specifications that are small.
func composed(s, u api.Spec) api.Spec {
	c, e := product.Compose(s, u)
	if e != api.OK {
		panic(e)
	}
	return c
}

// A triple is three specifications with the same actions.
type triple struct {
	s, t, u api.Spec
}

func triples() []triple {
	r := source()
	var l []triple
	for range 300 {
		actions := r.IntN(4)
		s := random(r, actions, 1+r.IntN(3), 3+r.IntN(9))
		l = append(l, triple{s, sparse(r, actions, 1+r.IntN(4)), random(r, actions, 1+r.IntN(3), 6)}, triple{sparse(r, actions, 1+r.IntN(4)), sparse(r, actions, 1+r.IntN(4)), sparse(r, actions, 1+r.IntN(4))})
	}
	for _, names := range []string{"", "a", "a b c"} {
		s := full(names, 3, func(state, action int) int { return (state + action) % 3 })
		for _, t := range []api.Spec{s, all(names), none(names), together(names)} {
			l = append(l, triple{s, t, all(names)}, triple{t, s, none(names)}, triple{t, t, together(names)})
		}
	}
	return l
}

// TestProductsOfSystemsThatSatisfyBoth takes systems that were made for the
// specifications.
func TestProductsOfSystemsThatSatisfyBoth(t *testing.T) {
	number := 0
	for _, c := range small() {
		s := composed(c[0], c[1])
		for _, m := range products(c[0], c[1]) {
			if number++; !satisfies(m, s) {
				t.Errorf("%s does not satisfy the composition %s of %s", show(m), show(s), show(c))
			}
		}
	}
	if number < 500 {
		t.Errorf("only %d products", number)
	}
}

func TestCompositionIsCommutative(t *testing.T) {
	for _, c := range triples() {
		equal(t, show("composition of ", c), composed(c.t, c.s), composed(c.s, c.t))
	}
}

func TestCompositionIsAssociative(t *testing.T) {
	moving := 0
	for _, c := range triples() {
		one, other := composed(composed(c.s, c.t), c.u), composed(c.s, composed(c.t, c.u))
		equal(t, show("composition of ", c), one, other)
		several, e := product.Several(c.s.Actions, []api.Spec{c.u, c.s, c.t})
		if equal(t, show("several of ", c), several, one); e != api.OK {
			t.Errorf("several of %s: error %d", show(c), e)
		}
		if size(one) > 1 {
			moving++
		}
	}
	if moving < 50 {
		t.Errorf("only %d compositions have several states", moving)
	}
}

// TestCompositionIsMonotonic has specifications that refine each other: they are
// meets and joins of others.
func TestCompositionIsMonotonic(t *testing.T) {
	number := 0
	for _, c := range triples() {
		within, _ := meet.Meet(c.s, c.u)
		above, _ := meet.Join(c.s, c.u)
		for _, x := range []struct{ s, u api.Spec }{{c.s, above}, {within, c.s}, {within, above}, {c.s, allOf(c.s)}} {
			less, more := composed(x.s, c.t), composed(x.u, c.t)
			if !refines(x.s, x.u) || !refines(less, more) || !refines(composed(c.t, x.s), composed(c.t, x.u)) {
				t.Errorf("%s refines %s, but with %s %s does not refine %s", show(x.s), show(x.u), show(c.t), show(less), show(more))
			}
			if !refines(more, less) {
				number++
			}
		}
	}
	if number < 300 {
		t.Errorf("only %d compositions differ", number)
	}
}

// allOf returns All of the actions of s.
func allOf(s api.Spec) api.Spec {
	whole, _ := meet.All(s.Actions, nil)
	return whole
}

func TestCompositionWithNone(t *testing.T) {
	for _, c := range couples() {
		s := c[0]
		nothing, _ := meet.Any(s.Actions, nil)
		hollow := clone(s)
		hollow.States[0].Accept = nil
		for _, no := range []api.Spec{nothing, hollow} {
			equal(t, show(s, " with None"), composed(s, no), nothing)
			equal(t, show("None with ", s), composed(no, s), nothing)
		}
	}
}

func TestCompositionWithSeveralOfNone(t *testing.T) {
	for _, c := range couples() {
		for _, s := range c {
			unit, e := product.Several(s.Actions, nil)
			if e != api.OK {
				t.Fatalf("several of none: error %d", e)
			}
			equal(t, show(s, " with all of them"), composed(s, unit), s)
			equal(t, show("all of them with ", s), composed(unit, s), s)
		}
	}
}
