package product_test

import (
	"cmp"
	"slices"
	"testing"

	"makeweight/api"
	"makeweight/product"
)

// The numbers of states up to which ErrLarge may not be returned, and those from
// which on it must be: no specification says the same with MaxStates states.

// clock returns a specification with two actions for each of k clocks. The first
// one of each of them turns that clock, the second one is offered only where it
// stands at its first position. The specification is that of clock i.
func clock(k, i, positions int) api.Spec {
	s := api.Spec{Actions: names(2 * k)}
	for position := range positions {
		next := slices.Repeat([]int{position}, 2*k)
		next[2*i] = (position + 1) % positions
		set := 1<<(2*k) - 1
		if position > 0 {
			set &^= 2 << (2 * i)
		}
		s.States = append(s.States, at(sets(set), next...))
	}
	return s
}

// clocks returns specifications, one for each number of positions. Each state of
// their composition offers another set now or later.
func clocks(positions ...int) []api.Spec {
	var l []api.Spec
	for i, n := range positions {
		l = append(l, clock(len(positions), i, n))
	}
	return l
}

func TestComposeAtTheBound(t *testing.T) {
	for _, n := range []int{1, 2, 3, 4, 5, 7, 20, 22, 23, 100, 166, 250, 499, 500} {
		m := api.MaxStates / n
		l := clocks(n, m)
		for range 2 {
			if s := checkCompose(t, l[0], l[1]); size(s) != n*m {
				t.Errorf("%d and %d positions: %d states", n, m, size(s))
			}
			slices.Reverse(l)
		}
		l = clocks(n, m+1)
		for range 2 {
			if m+1 <= api.MaxStates {
				s, e := product.Compose(l[0], l[1])
				refused(t, "just above", s, e, api.ErrLarge)
			}
			slices.Reverse(l)
		}
	}
	l := clocks(500, 500)
	s, e := product.Compose(l[0], l[1])
	refused(t, "far above", s, e, api.ErrLarge)
}

// widened returns s with so many more states: hollow ones, and others that are
// not reached.
func widened(s api.Spec, hollow, others int) api.Spec {
	c := clone(s)
	for i := range hollow + others {
		accept := sets(1)
		if i < hollow {
			accept = nil
		}
		c.States = append(c.States, at(accept, make([]int, len(s.Actions))...))
	}
	return c
}

// TestComposeAboveTheBound has results that are small, or None: they may be
// refused, but not be wrong.
func TestComposeAboveTheBound(t *testing.T) {
	l := clocks(20, 25)
	for _, c := range [][2]api.Spec{
		{ring(500), ring(500)}, {ring(500), ring(250)}, {ring(250), ring(100)}, {ring(501 / 3), ring(3)}, {ring(400), all("a")}, {ring(500), none("a")}, {none("a"), ring(500)},
		{widened(l[0], 1, 0), l[1]}, {l[0], widened(l[1], 0, 9)}, {widened(l[0], 200, 280), widened(l[1], 100, 375)}, {widened(none("a"), 300, 199), ring(499)}, {ring(499), widened(none("a"), 1, 1)},
		{of("spec a;0: {} ->"), ring(500)}, {ring(500), widened(of("spec a;0: {} ->"), 1, 0)},
	} {
		s, e := product.Compose(c[0], c[1])
		taskOf(c[0].Actions, c[0], c[1]).checkOrLarge(t, "above", s, e)
	}
	s, e := product.Compose(ring(3), ring(167))
	refused(t, "two rings", s, e, api.ErrLarge)
}

// TestComposeWithStatesThatDoNotCount: up to the bound also hollow states, and
// those that are not reached, are in both.
func TestComposeWithStatesThatDoNotCount(t *testing.T) {
	l := clocks(10, 20)
	if s := checkCompose(t, widened(l[0], 3, 7), widened(l[1], 4, 1)); size(s) != 200 {
		t.Errorf("%d states", size(s))
	}
	equal(t, "None with many", checkCompose(t, none("a"), ring(500)), none("a"))
	equal(t, "many with None", checkCompose(t, widened(ring(498), 1, 1), none("a")), none("a"))
}

func TestSeveralAtTheBound(t *testing.T) {
	for _, c := range []struct{ most, more []int }{
		{[]int{500}, nil}, {[]int{1, 500}, []int{2, 251}}, {[]int{500, 1}, []int{251, 2}}, {[]int{250, 2}, []int{167, 3}}, {[]int{4, 5, 25}, []int{4, 5, 26}}, {[]int{25, 4, 5}, []int{26, 5, 4}}, {[]int{5, 5, 20}, []int{5, 5, 21}},
		{[]int{2, 2, 125}, []int{2, 2, 126}}, {[]int{1, 1, 500}, []int{8, 8, 8}}, {[]int{500, 1, 1}, []int{500, 1, 2}}, {[]int{5, 5, 5, 4}, []int{5, 5, 5, 5}}, {[]int{4, 5, 1, 25}, []int{1, 23, 22, 1}}, {[]int{2, 2, 5, 25}, []int{3, 3, 7, 8}}, {[]int{1, 1, 1, 500}, []int{2, 1, 1, 251}},
	} {
		states := 1
		for _, n := range c.most {
			states *= n
		}
		if s := checkSeveral(t, names(2*len(c.most)), clocks(c.most...)...); size(s) != states {
			t.Errorf("%v positions: %d states", c.most, size(s))
		}
		if c.more != nil {
			s, e := product.Several(names(2*len(c.more)), clocks(c.more...))
			refused(t, show(c.more), s, e, api.ErrLarge)
		}
	}
	s, e := product.Several(names(8), clocks(500, 500, 500, 500))
	refused(t, "far above", s, e, api.ErrLarge)
}

// TestSeveralAboveTheBound has results that are small, or None: they may be
// refused, but not be wrong.
func TestSeveralAboveTheBound(t *testing.T) {
	for _, l := range [][]api.Spec{
		{ring(500), ring(500), ring(500)}, {ring(100), ring(250), ring(500)}, {none("a"), ring(500), ring(499)}, {ring(500), ring(499), none("a")}, {ring(500), none("a"), ring(499)}, {of("spec a;0: {} ->"), ring(500), ring(499)},
		{widened(all("a"), 1, 0), ring(251)}, slices.Repeat([]api.Spec{ring(2)}, 9), slices.Repeat([]api.Spec{ring(2)}, 100),
	} {
		s, e := product.Several(names(1), l)
		taskOf(names(1), l...).checkOrLarge(t, "above", s, e)
	}
	s, e := product.Several(names(1), []api.Spec{ring(3), all("a"), ring(4), ring(49), ring(5)})
	taskOf(names(1), ring(3), all("a"), ring(4), ring(49), ring(5)).checkOrLarge(t, "above", s, e)
}

// crowded returns a system with so many states that can, after some word, be in
// each set of them but the empty one. Each state offers another set. With up to
// eight states the actions a and b only wait.
func crowded(states int) api.System {
	const a, b, turn, split, swap, mark = 0, 1, 2, 3, 4, 5
	m := api.System{Actions: names(8)}
	for state := range states {
		edges := []api.Edge{{Action: a, To: state}, {Action: b, To: state}, {Action: turn, To: (state + 1) % states}, {Action: split, To: state}, {Action: swap, To: state}}
		if state > 7 {
			edges = slices.Delete(edges, b, b+1)
		}
		for i := range 3 {
			if has(state, i) {
				edges = append(edges, api.Edge{Action: mark + i, To: state})
			}
		}
		if state == 0 && states > 1 {
			edges = append(edges, api.Edge{Action: split, To: 1})
		}
		for i, e := range edges {
			if e.Action == swap && state < 2 && states > 1 {
				edges[i].To = 1 - state
			}
		}
		slices.SortFunc(edges, inOrder)
		m.States = append(m.States, edges)
	}
	return m
}

func inOrder(e, f api.Edge) int {
	return cmp.Or(cmp.Compare(e.Action, f.Action), cmp.Compare(e.To, f.To))
}

func TestBesideAtTheBound(t *testing.T) {
	for states := 1; states <= 8; states++ {
		m := crowded(states)
		most := api.MaxStates >> states
		for _, positions := range []int{1, most/2 + 1, most} {
			if b := checkBeside(t, m, clock(4, 0, positions)); size(b) != (1<<states-1)*positions {
				t.Errorf("%d states beside %d positions: %d states", states, positions, size(b))
			}
		}
		above := clock(4, 0, most+1)
		b, e := product.Beside(m, above)
		taskOf(m.Actions, above).beside(m).checkOrLarge(t, "just above", b, e)
		// Here there are too many states that differ.
		b, e = product.Beside(m, clock(4, 0, min(api.MaxStates/(1<<states-1)+1, api.MaxStates)))
		if states > 1 {
			refused(t, "above", b, e, api.ErrLarge)
		}
	}
	for _, states := range []int{9, 10, 500} {
		b, e := product.Beside(crowded(states), together(letters))
		refused(t, "nine states", b, e, api.ErrLarge)
	}
}

// padded returns m with so many more states, which cannot be reached.
func padded(m api.System, states int) api.System {
	return api.System{Actions: m.Actions, States: append(slices.Clone(m.States), make([][]api.Edge, states)...)}
}

// TestBesideWithStatesThatDoNotCount: up to the bound, states that cannot be
// reached, and hollow ones, are in both.
func TestBesideWithStatesThatDoNotCount(t *testing.T) {
	if b := checkBeside(t, padded(crowded(3), 2), widened(clock(4, 0, 10), 2, 3)); size(b) != 70 {
		t.Errorf("%d states", size(b))
	}
	equal(t, "beside None", checkBeside(t, crowded(8), none(letters)), none(letters))
	equal(t, "beside a hollow one", checkBeside(t, padded(run("system a;0: a 0"), 7), none("a")), none("a"))
	equal(t, "beside many", checkBeside(t, run("system a;0: a 0"), ring(250)), ring(250))
}

// TestBesideAboveTheBound has results that are small, or None: they may be
// refused, but not be wrong.
func TestBesideAboveTheBound(t *testing.T) {
	one := run("system a;0: a 0")
	for _, c := range []struct {
		m api.System
		s api.Spec
	}{
		{one, ring(251)}, {one, ring(500)}, {padded(one, 8), all("a")}, {padded(one, 1), ring(126)}, {padded(one, 500), ring(500)}, {padded(one, api.MaxNodes-1), ring(500)}, {padded(one, api.MaxNodes-1), none("a")}, {padded(one, 9), widened(none("a"), 400, 99)},
		{crowded(9), none(letters)}, {crowded(9), of("spec a b c d e f g h;0: {} ->")}, {crowded(500), of("spec a b c d e f g h;0: {a} -> a 0")}, {rounds(500, 1), ring(500)}, {rounds(250, 1), ring(100)}, {rounds(9, 9), ring(2)}, {rounds(500, 499), all("a")},
	} {
		b, e := product.Beside(c.m, c.s)
		taskOf(c.m.Actions, c.s).beside(c.m).checkOrLarge(t, "above", b, e)
	}
	b, e := product.Beside(rounds(9, 1), ring(56))
	taskOf(names(1), ring(56)).beside(rounds(9, 1)).checkOrLarge(t, "nine in a ring", b, e)
	b, e = product.Beside(mixed(251), of("spec a;0: {a} -> a 1;1: {} {a} -> a 0"))
	refused(t, "251 in a ring", b, e, api.ErrLarge)
}

// rounds returns the system with one action whose states stand in a ring, each
// with edges to so many of the next ones.
func rounds(states, next int) api.System {
	m := api.System{Actions: names(1)}
	for state := range states {
		var edges []api.Edge
		for i := range next {
			edges = append(edges, api.Edge{To: (state + i + 1) % states})
		}
		slices.SortFunc(edges, inOrder)
		m.States = append(m.States, edges)
	}
	return m
}

// mixed returns the ring of so many states, of which one leads to a further
// state, too, which stops.
func mixed(states int) api.System {
	m := rounds(states, 1)
	m.States[0] = append(m.States[0], api.Edge{To: states})
	m.States = append(m.States, nil)
	return m
}

// TestTheLargest has systems and specifications with all states and actions.
func TestTheLargest(t *testing.T) {
	whole := full(letters, api.MaxStates, func(state, action int) int { return (8*state + action + 1) % api.MaxStates })
	for _, c := range [][2]api.Spec{{whole, whole}, {whole, all(letters)}, {together(letters), whole}, {whole, none(letters)}} {
		s, e := product.Compose(c[0], c[1])
		if e != api.ErrLarge {
			taskOf(c[0].Actions, c[0], c[1]).check(t, "the largest", s, e)
		}
	}
	equal(t, "the largest alone", composed(whole, all(letters)), whole)
	m := rounds(api.MaxNodes, 10)
	for state := range m.States {
		for action := 1; action < 8; action++ {
			for _, e := range m.States[state][:10] {
				m.States[state] = append(m.States[state], api.Edge{Action: action, To: e.To})
			}
		}
	}
	m.Actions = names(8)
	for _, s := range []api.Spec{whole, all(letters), together(letters), none(letters), of("spec a b c d e f g h;0: {} ->")} {
		b, e := product.Beside(m, s)
		taskOf(m.Actions, s).beside(m).checkOrLarge(t, "the largest beside", b, e)
	}
}
