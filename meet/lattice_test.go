package meet_test

import (
	"testing"

	"makeweight/api"
	"makeweight/meet"
)

// P7.4 and W2: meet and join are those of a lattice, whose order is refinement.

// met returns the meet of two specifications that are small.
func met(s, u api.Spec) api.Spec {
	m, e := meet.Meet(s, u)
	if e != api.OK {
		panic(e)
	}
	return m
}

// joined returns the join of two specifications that are small.
func joined(s, u api.Spec) api.Spec {
	j, e := meet.Join(s, u)
	if e != api.OK {
		panic(e)
	}
	return j
}

// A triple is three specifications with the same actions.
type triple struct {
	s, t, u api.Spec
}

func triples() []triple {
	r := source()
	var l []triple
	for range 300 {
		actions := r.IntN(4)
		s := random(r, actions, 1+r.IntN(3), 3+r.IntN(5))
		l = append(l, triple{s, near(r, s), near(r, s)}, triple{s, near(r, s), random(r, actions, 1+r.IntN(3), 4)})
	}
	for _, names := range []string{"", "a", "a b c"} {
		s := full(names, 3, func(state, action int) int { return (state + action) % 3 })
		for _, t := range []api.Spec{s, all(names), none(names)} {
			l = append(l, triple{s, t, all(names)}, triple{t, s, none(names)}, triple{t, t, s})
		}
	}
	return l
}

func TestMeetAndJoinAreCommutative(t *testing.T) {
	for _, c := range triples() {
		equal(t, show("meet of ", c), met(c.t, c.s), met(c.s, c.t))
		equal(t, show("join of ", c), joined(c.t, c.s), joined(c.s, c.t))
	}
}

func TestMeetAndJoinAreAssociative(t *testing.T) {
	for _, c := range triples() {
		equal(t, show("meet of ", c), met(met(c.s, c.t), c.u), met(c.s, met(c.t, c.u)))
		equal(t, show("join of ", c), joined(joined(c.s, c.t), c.u), joined(c.s, joined(c.t, c.u)))
	}
}

func TestMeetAndJoinAreIdempotent(t *testing.T) {
	for _, c := range couples() {
		for _, s := range c {
			equal(t, show("meet of ", s), met(s, s), s)
			equal(t, show("join of ", s), joined(s, s), s)
		}
	}
}

func TestMeetAndJoinAbsorbEachOther(t *testing.T) {
	for _, c := range triples() {
		equal(t, show("join with the meet of ", c), joined(c.s, met(c.s, c.t)), c.s)
		equal(t, show("meet with the join of ", c), met(c.s, joined(c.s, c.t)), c.s)
	}
}

// TestMeetIsTheGreatest has specifications that refine both, or only one of
// both, or neither.
func TestMeetIsTheGreatest(t *testing.T) {
	both, one := 0, 0
	for _, c := range triples() {
		m := met(c.s, c.t)
		if !refines(m, c.s) || !refines(m, c.t) {
			t.Errorf("%s does not refine both of %s", show(m), show(c))
		}
		for _, x := range []api.Spec{c.u, met(c.u, m), met(c.u, c.s), met(c.s, met(c.u, c.t)), joined(m, c.u)} {
			first, second := refines(x, c.s), refines(x, c.t)
			if refines(x, m) != (first && second) {
				t.Errorf("%s refines %s: %v, %s: %v, and their meet %s", show(x), show(c.s), first, show(c.t), second, show(m))
			}
			switch {
			case hollowOf(x)[0]:
			case first && second:
				both++
			case first || second:
				one++
			}
		}
	}
	if both < 200 || one < 100 {
		t.Errorf("only %d refine both, %d one", both, one)
	}
}

// TestJoinIsTheLeast has specifications that both refine, or only one of both,
// or neither.
func TestJoinIsTheLeast(t *testing.T) {
	both, one := 0, 0
	for _, c := range triples() {
		j := joined(c.s, c.t)
		if !refines(c.s, j) || !refines(c.t, j) {
			t.Errorf("not both of %s refine %s", show(c), show(j))
		}
		for _, x := range []api.Spec{c.u, joined(c.u, j), joined(c.u, c.s), joined(c.s, joined(c.u, c.t)), met(j, c.u)} {
			first, second := refines(c.s, x), refines(c.t, x)
			if refines(j, x) != (first && second) {
				t.Errorf("%s refines %s: %v, %s: %v, and their join %s", show(c.s), show(x), first, show(c.t), second, show(j))
			}
			switch {
			case hollowOf(c.s)[0] || hollowOf(c.t)[0]:
			case first && second:
				both++
			case first || second:
				one++
			}
		}
	}
	if both < 200 || one < 100 {
		t.Errorf("both refine only %d, one %d", both, one)
	}
}

// TestAllAndNone are the greatest and the least specification.
func TestAllAndNone(t *testing.T) {
	for _, c := range couples() {
		s := c[0]
		whole, _ := meet.All(s.Actions, nil)
		nothing, _ := meet.Any(s.Actions, nil)
		equal(t, "meet with All", met(s, whole), s)
		equal(t, "meet with All", met(whole, s), s)
		equal(t, "join with All", joined(s, whole), whole)
		equal(t, "join with All", joined(whole, s), whole)
		equal(t, "meet with None", met(s, nothing), nothing)
		equal(t, "meet with None", met(nothing, s), nothing)
		equal(t, "join with None", joined(s, nothing), s)
		equal(t, "join with None", joined(nothing, s), s)
	}
}
