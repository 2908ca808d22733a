package system_test

import (
	"fmt"
	"slices"
	"testing"

	"makeweight/api"
	"makeweight/system"
)

// P2.4: Part and Product.

func TestPartOfExamples(t *testing.T) {
	m := build("a b", row(0, 3, 1, 1), nil, row(0, 0), row(0, 3, 1, 2))
	for _, c := range []struct {
		m       api.System
		state   int
		want    api.System
		numbers []int
	}{
		{tea(), 0, tea(), []int{0, 1}},
		{tea(), 1, build("coin tea", row(1, 1), row(0, 0)), []int{1, 0}},
		{stop(), 1, build("coin tea", nil), []int{1}},
		{build("", nil, nil), 1, build("", nil), []int{1}},
		{build("a", nil, row(0, 0, 0, 1, 0, 2), nil), 0, build("a", nil), []int{0}},
		// The order is that of the edges in m, not that of the numbers.
		{m, 0, build("a b", row(0, 1, 1, 2), row(0, 1, 1, 3), nil, row(0, 0)), []int{0, 3, 1, 2}},
		{m, 2, build("a b", row(0, 1), row(0, 2, 1, 3), row(0, 2, 1, 0), nil), []int{2, 0, 3, 1}},
		{m, 3, build("a b", row(0, 0, 1, 1), row(0, 2), row(0, 0, 1, 3), nil), []int{3, 2, 0, 1}},
		// New numbers turn the order of edges around.
		{build("a", row(0, 0, 0, 1), row(0, 0, 0, 1)), 1, build("a", row(0, 0, 0, 1), row(0, 0, 0, 1)), []int{1, 0}},
		{build("a b", row(0, 2), row(0, 0), row(0, 0, 0, 1, 1, 0, 1, 2)), 0, build("a b", row(0, 1), row(0, 0, 0, 2, 1, 0, 1, 1), row(0, 0)), []int{0, 2, 1}},
		{build("a b", nil, row(0, 2, 0, 3), row(0, 1, 0, 3), row(0, 0)), 3, build("a b", row(0, 1), nil), []int{3, 0}},
		{build("a", row(0, 1, 0, 2), row(0, 3), row(0, 1, 0, 2, 0, 3), nil), 2, build("a", row(0, 0, 0, 1, 0, 2), row(0, 2), nil), []int{2, 1, 3}},
	} {
		what := fmt.Sprintf("Part(%s, %d)", show(c.m), c.state)
		part, numbers, e := system.Part(c.m, c.state)
		same(t, what, part, c.want)
		if !slices.Equal(numbers, c.numbers) || e != api.OK {
			t.Errorf("%s: %v %d, want %v", what, numbers, e, c.numbers)
		}
	}
}

// reachable returns the states that can be reached from a state, in the order
// of Part.
func reachable(m api.System, state int) []int {
	l := []int{state}
	for i := 0; i < len(l); i++ {
		for _, e := range m.States[l[i]] {
			if !slices.Contains(l, e.To) {
				l = append(l, e.To)
			}
		}
	}
	return l
}

func TestPartOfAllStates(t *testing.T) {
	for _, m := range systems() {
		for state := range m.States {
			what := fmt.Sprintf("Part(%s, %d)", show(m), state)
			part, numbers, e := system.Part(m, state)
			if !slices.Equal(numbers, reachable(m, state)) || e != api.OK || len(part.States) != len(numbers) {
				t.Fatalf("%s: %v %d, want %v", what, numbers, e, reachable(m, state))
			}
			valid(t, what, part)
			for i, edges := range part.States {
				var back []api.Edge
				for _, e := range edges {
					back = append(back, api.Edge{Action: e.Action, To: numbers[e.To]})
				}
				slices.SortFunc(back, func(e, f api.Edge) int {
					if before(e, f) {
						return -1
					}
					return 1
				})
				if !slices.Equal(back, m.States[numbers[i]]) {
					t.Errorf("%s: state %d has the edges %v", what, i, edges)
				}
			}
		}
	}
}

func TestPartOfTheLargestSystems(t *testing.T) {
	for what, m := range map[string]api.System{
		"ring": ring(api.MaxNodes), "edges": edgesOf(api.MaxEdges), "both": edgesOfRing(api.MaxNodes, api.MaxEdges/api.MaxNodes),
	} {
		part, numbers, e := system.Part(m, len(m.States)/2)
		valid(t, what, part)
		if e != api.OK || numbers[0] != len(m.States)/2 {
			t.Errorf("%s: %d", what, e)
		}
	}
	part, numbers, e := system.Part(chain(api.MaxNodes, 1), api.MaxNodes-3)
	same(t, "end of a chain", part, chain(3, 1))
	if want := []int{api.MaxNodes - 3, api.MaxNodes - 2, api.MaxNodes - 1}; !slices.Equal(numbers, want) || e != api.OK {
		t.Errorf("end of a chain: %v %d", numbers, e)
	}
}

func TestPartRefusesOtherNumbers(t *testing.T) {
	for _, m := range systems() {
		for _, state := range noStates(len(m.States)) {
			part, numbers, e := system.Part(m, state)
			same(t, "Part", part, api.System{})
			if len(numbers) != 0 || e != api.ErrArg {
				t.Errorf("Part(%s, %d): %v %d, want ErrArg", show(m), state, numbers, e)
			}
		}
	}
}

func TestProductOfExamples(t *testing.T) {
	for _, c := range []struct {
		m, n, want api.System
		pairs      [][2]int
	}{
		{tea(), tea(), tea(), [][2]int{{0, 0}, {1, 1}}},
		{tea(), stop(), stop(), [][2]int{{0, 0}, {1, 1}}},
		{tea(), long(), long(), [][2]int{{0, 0}, {1, 1}, {0, 2}, {1, 3}}},
		{build("", nil, nil), build("", nil), build("", nil), [][2]int{{0, 0}}},
		{ring(2), ring(3), ring(6), [][2]int{{0, 0}, {1, 1}, {0, 2}, {1, 0}, {0, 1}, {1, 2}}},
		{build("a b", row(0, 0)), build("a b", row(1, 0)), build("a b", nil), [][2]int{{0, 0}}},
		// The edges are ordered by action, then by the state of the first
		// system, then by that of the second one.
		{
			build("a", row(0, 1, 0, 2), nil, nil), build("a", row(0, 0, 0, 1), nil),
			build("a", row(0, 1, 0, 2, 0, 3, 0, 4), nil, nil, nil, nil), [][2]int{{0, 0}, {1, 0}, {1, 1}, {2, 0}, {2, 1}},
		},
		{
			build("a b", row(0, 2, 1, 1), nil, nil), build("a b", row(0, 3, 1, 1, 1, 2), nil, nil, nil),
			build("a b", row(0, 1, 1, 2, 1, 3), nil, nil, nil), [][2]int{{0, 0}, {2, 3}, {1, 1}, {1, 2}},
		},
		// The numbers of the pairs turn the order of edges around.
		{
			build("a", row(0, 1), row(0, 0, 0, 1)), build("a", row(0, 1), row(0, 0, 0, 1)),
			build("a", row(0, 1), row(0, 0, 0, 1, 0, 2, 0, 3), row(0, 1, 0, 3), row(0, 1, 0, 2)), [][2]int{{0, 0}, {1, 1}, {0, 1}, {1, 0}},
		},
	} {
		what := fmt.Sprintf("Product(%s, %s)", show(c.m), show(c.n))
		product, pairs, e := system.Product(c.m, c.n)
		same(t, what, product, c.want)
		if !slices.Equal(pairs, c.pairs) || e != api.OK {
			t.Errorf("%s: %v %d, want %v", what, pairs, e, c.pairs)
		}
	}
}

// product is Product, by the definition.
func product(m, n api.System) (api.System, [][2]int) {
	p := api.System{Actions: m.Actions}
	pairs := [][2]int{{0, 0}}
	for i := 0; i < len(pairs); i++ {
		var edges []api.Edge
		for _, d := range m.States[pairs[i][0]] {
			for _, e := range n.States[pairs[i][1]] {
				if d.Action != e.Action {
					continue
				}
				pair := [2]int{d.To, e.To}
				if !slices.Contains(pairs, pair) {
					pairs = append(pairs, pair)
				}
				edges = append(edges, api.Edge{Action: d.Action, To: slices.Index(pairs, pair)})
			}
		}
		slices.SortFunc(edges, func(e, f api.Edge) int {
			if before(e, f) {
				return -1
			}
			return 1
		})
		p.States = append(p.States, edges)
	}
	return p, pairs
}

func TestProductOfRandomSystems(t *testing.T) {
	r := source()
	for range 500 {
		actions := r.IntN(4)
		m, n := random(r, actions, 1+r.IntN(5), 1+r.IntN(5)), random(r, actions, 1+r.IntN(5), 1+r.IntN(5))
		what := fmt.Sprintf("Product(%s, %s)", show(m), show(n))
		want, wants := product(m, n)
		got, pairs, e := system.Product(m, n)
		same(t, what, got, want)
		valid(t, what, got)
		if !slices.Equal(pairs, wants) || e != api.OK {
			t.Errorf("%s: %v %d, want %v", what, pairs, e, wants)
		}
	}
}

// block returns a system of two actions: with a from each state to each, and
// with so many other edges with b.
func block(states, edges int) api.System {
	m := full(states)
	m.Actions = []string{"a", "b"}
	for state := range m.States {
		for to := 0; to < states && edges > 0; to++ {
			m.States[state] = append(m.States[state], api.Edge{Action: 1, To: to})
			edges--
		}
	}
	return m
}

// TestProductBoundsItsSize has products at the limits and right above them:
// rings of lengths without a common divisor have a ring of all pairs, and
// blocks have all pairs, with the product of the numbers of edges.
func TestProductBoundsItsSize(t *testing.T) {
	loop := build("a", row(0, 0))
	stars := build("a", row(0, 0, 0, 1), nil)
	for _, c := range []struct {
		what          string
		m, n          api.System
		states, edges int
	}{
		{"two states less", ring(34), ring(147), 4998, 4998},
		{"most states", ring(8), ring(625), 5000, 5000},
		{"one state more", ring(3), ring(1667), 0, 0},
		{"one state more, turned", ring(1667), ring(3), 0, 0},
		{"far more states", ring(4999), ring(5000), 0, 0},
		{"as many as in one", ring(api.MaxNodes), loop, 5000, 5000},
		{"one edge less", block(8, 25), block(79, 23), 632, 399999},
		{"most edges", block(8, 24), block(79, 24), 632, 400000},
		{"one edge more", block(8, 1), block(79, 577), 0, 0},
		{"one edge more, turned", block(79, 577), block(8, 1), 0, 0},
		{"far more edges", full(600), full(601), 0, 0},
		{"most edges of one", edgesOf(api.MaxEdges), loop, 640, 400000},
		{"twice the edges of one", edgesOf(api.MaxEdges), stars, 0, 0},
		{"large ones with few pairs", chain(api.MaxNodes, 1), chain(2, 1), 2, 1},
	} {
		p, pairs, e := system.Product(c.m, c.n)
		edges := 0
		for _, l := range p.States {
			edges += len(l)
		}
		want := api.OK
		if c.states == 0 {
			want = api.ErrLarge
			same(t, c.what, p, api.System{})
		} else {
			valid(t, c.what, p)
		}
		if e != want || len(p.States) != c.states || len(pairs) != c.states || edges != c.edges {
			t.Errorf("%s: %d states, %d pairs, %d edges, %d; want %d, %d, %d", c.what, len(p.States), len(pairs), edges, e, c.states, c.edges, want)
		}
	}
}

// P2.7: words of the product.

func TestAfterInTheProduct(t *testing.T) {
	r := source()
	for range 300 {
		actions := 1 + r.IntN(3)
		m, n := random(r, actions, 1+r.IntN(5), 1+r.IntN(6)), random(r, actions, 1+r.IntN(5), 1+r.IntN(6))
		p, pairs, _ := system.Product(m, n)
		for length := range 8 {
			word := randomWord(r, actions, length)
			of, _ := system.After(m, word)
			by, _ := system.After(n, word)
			states, e := system.After(p, word)
			var want, got [][2]int
			for _, k := range of {
				for _, l := range by {
					want = append(want, [2]int{k, l})
				}
			}
			for _, state := range states {
				got = append(got, pairs[state])
			}
			slices.SortFunc(got, func(p, q [2]int) int { return slices.Compare(p[:], q[:]) })
			if !slices.Equal(got, want) || e != api.OK {
				t.Errorf("%s, %s after %v: %v %d, want %v", show(m), show(n), word, got, e, want)
			}
		}
	}
}
