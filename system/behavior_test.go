package system_test

import (
	"fmt"
	"slices"
	"testing"

	"makeweight/api"
	"makeweight/system"
)

// P2.5: Alike and Least.

// alikePairs returns the greatest relation of the definition between the
// states of two systems: pairs that break it are taken out until none does.
func alikePairs(m, n api.System) map[[2]int]bool {
	related := map[[2]int]bool{}
	for k := range m.States {
		for l := range n.States {
			related[[2]int{k, l}] = true
		}
	}
	for changed := true; changed; {
		changed = false
		for pair := range related {
			there := matched(m.States[pair[0]], n.States[pair[1]], func(k, l int) bool { return related[[2]int{k, l}] })
			back := matched(n.States[pair[1]], m.States[pair[0]], func(l, k int) bool { return related[[2]int{k, l}] })
			if !there || !back {
				delete(related, pair)
				changed = true
			}
		}
	}
	return related
}

// matched reports whether each edge of the one has an edge of the other with
// the same action and related targets.
func matched(one, other []api.Edge, related func(k, l int) bool) bool {
	for _, d := range one {
		if !slices.ContainsFunc(other, func(e api.Edge) bool { return d.Action == e.Action && related(d.To, e.To) }) {
			return false
		}
	}
	return true
}

func TestAlikeOfExamples(t *testing.T) {
	early := build("a b c", row(0, 1, 0, 2), row(1, 3), row(2, 3), nil)
	late := build("a b c", row(0, 1), row(1, 2, 2, 2), nil)
	for _, c := range []struct {
		m, n api.System
		want bool
	}{
		{tea(), tea(), true}, {tea(), long(), true}, {tea(), stop(), false}, {stop(), long(), false},
		{build("", nil), build("", nil, nil), true},
		{build("a", nil), build("a", nil, row(0, 0)), true},
		{build("a", nil), build("a", row(0, 0)), false},
		{build("a b", row(0, 0)), build("a b", row(1, 0)), false},
		{ring(1), ring(12), true}, {ring(8), ring(9), true}, {ring(3), full(5), true}, {ring(3), chain(40, 1), false},
		{chain(7, 1), chain(7, 1), true}, {chain(7, 1), chain(8, 1), false}, {chain(7, 2), chain(7, 1), false},
		// The same words are not enough, nor is it that each has what the
		// other one has, at different times.
		{early, late, false},
		{build("a b", row(0, 1), row(1, 0)), build("a b", row(0, 1, 0, 2), row(1, 0), nil), false},
		{build("a b", row(0, 1, 0, 2), row(1, 0), row(1, 1)), build("a b", row(0, 1), row(1, 0)), false},
		{build("a b", row(0, 1, 0, 2), row(1, 0), row(1, 0)), build("a b", row(0, 1), row(1, 0)), true},
		// An edge more, to what is there anyway.
		{build("a", row(0, 1, 0, 2), nil, row(0, 1)), build("a", row(0, 1, 0, 2, 0, 3), nil, row(0, 1), row(0, 1)), true},
		// States that cannot be reached do not matter.
		{build("a b", row(0, 0), row(1, 0)), build("a b", row(0, 1), row(0, 0), row(1, 1), row(0, 0, 1, 2)), true},
	} {
		for _, pair := range [][2]api.System{{c.m, c.n}, {c.n, c.m}} {
			if is, e := system.Alike(pair[0], pair[1]); is != c.want || e != api.OK {
				t.Errorf("Alike(%s, %s) = %v %d, want %v", show(pair[0]), show(pair[1]), is, e, c.want)
			}
		}
	}
}

// TestAlikeLooksAtEachAction has chains that differ in their lengths alone.
func TestAlikeLooksAtEachAction(t *testing.T) {
	for action := range api.MaxActions {
		var chains [2]api.System
		for i := range chains {
			m := build(letters)
			for state := range 6 + i {
				m.States = append(m.States, row(action, state+1))
			}
			m.States = append(m.States, nil)
			chains[i] = m
		}
		if is, e := system.Alike(chains[0], chains[1]); is || e != api.OK {
			t.Errorf("action %d: %v %d, want false", action, is, e)
		}
		if is, e := system.Alike(chains[0], chains[0]); !is || e != api.OK {
			t.Errorf("action %d: %v %d, want true", action, is, e)
		}
	}
}

// smallSystems returns all systems with one action and at most two states, and
// all with two actions of which the second one only leads to state 0.
func smallSystems() []api.System {
	l := []api.System{build("a b", nil), build("a b", row(0, 0)), build("a b", row(1, 0)), build("a b", row(0, 0, 1, 0))}
	all := row(0, 0, 0, 1, 1, 0)
	for choice := range 1 << 6 {
		m := build("a b", nil, nil)
		for bit := range 6 {
			if choice>>bit%2 == 1 {
				m.States[bit/3] = append(m.States[bit/3], all[bit%3])
			}
		}
		l = append(l, m)
	}
	return l
}

func TestAlikeOfSmallSystems(t *testing.T) {
	l := smallSystems()
	for _, m := range l {
		for _, n := range l {
			want := alikePairs(m, n)[[2]int{0, 0}]
			if is, e := system.Alike(m, n); is != want || e != api.OK {
				t.Errorf("Alike(%s, %s) = %v %d, want %v", show(m), show(n), is, e, want)
			}
		}
	}
}

func TestAlikeOfRandomSystems(t *testing.T) {
	r := source()
	count := 0
	for range 2000 {
		actions := []int{1, 2, 2, api.MaxActions}[r.IntN(4)]
		m, n := random(r, actions, 1+r.IntN(7), 1+r.IntN(9)), random(r, actions, 1+r.IntN(7), 1+r.IntN(9))
		want := alikePairs(m, n)[[2]int{0, 0}]
		if is, e := system.Alike(m, n); is != want || e != api.OK {
			t.Errorf("Alike(%s, %s) = %v %d, want %v", show(m), show(n), is, e, want)
		}
		if want {
			count++
		}
	}
	if count < 100 {
		t.Errorf("only %d pairs of systems behave alike", count)
	}
}

// blown returns a system that behaves like m: each state has several copies,
// and an edge leads to some of those of its target, at least one.
func blown(m api.System, copies int) api.System {
	n := api.System{Actions: m.Actions}
	r := source()
	for state := range len(m.States) * copies {
		var edges []api.Edge
		for _, e := range m.States[state/copies] {
			sure := r.IntN(copies)
			for i := range copies {
				if i == sure || r.IntN(2) == 0 {
					edges = append(edges, api.Edge{Action: e.Action, To: e.To*copies + i})
				}
			}
		}
		n.States = append(n.States, edges)
	}
	return n
}

func TestAlikeOfBlownSystems(t *testing.T) {
	for _, m := range append(systems(), chain(300, 5), full(20), edgesOfRing(100, 3)) {
		n := blown(m, 4)
		if is, e := system.Alike(m, n); !is || e != api.OK {
			t.Errorf("Alike(%s) = %v %d, want true", show(m), is, e)
		}
	}
}

func TestLeastOfExamples(t *testing.T) {
	for _, c := range []struct {
		m, want api.System
		class   []int
	}{
		{tea(), tea(), []int{0, 1}},
		{stop(), stop(), []int{0, 1}},
		{long(), tea(), []int{0, 1, 0, 1}},
		{build("", nil, nil), build("", nil), []int{0, -1}},
		{ring(4), ring(1), []int{0, 0, 0, 0}},
		{full(3), ring(1), []int{0, 0, 0}},
		{chain(4, 1), chain(4, 1), []int{0, 1, 2, 3}},
		{build("a", row(0, 1, 0, 2), nil, nil), build("a", row(0, 1), nil), []int{0, 1, 1}},
		// What cannot be reached has no class, even if it behaves alike.
		{build("a b", row(0, 0), row(0, 0), row(1, 1)), build("a b", row(0, 0)), []int{0, -1, -1}},
		// Classes stand in the order of Part, not in that of the numbers.
		{
			build("a b", row(0, 3, 1, 1), nil, row(0, 0), row(0, 3, 1, 2)),
			build("a b", row(0, 1, 1, 2), row(0, 1, 1, 3), nil, row(0, 0)), []int{0, 2, 3, 1},
		},
		{build("a", row(0, 2), nil, row(0, 1)), build("a", row(0, 1), row(0, 2), nil), []int{0, 2, 1}},
		// A class has the place of its first state: 2 comes ahead of 1, and
		// 3 is like 2.
		{
			build("a b c", row(0, 2, 1, 1, 2, 3), row(1, 1), row(0, 2), row(0, 2)),
			build("a b c", row(0, 1, 1, 2, 2, 1), row(0, 1), row(1, 2)), []int{0, 2, 1, 1},
		},
		// Numbers of classes turn the order of edges around.
		{build("a", row(0, 1), row(0, 0, 0, 1, 0, 2), nil), build("a", row(0, 1), row(0, 0, 0, 1, 0, 2), nil), []int{0, 1, 2}},
		{build("a b", row(0, 2, 1, 2), nil, row(0, 1, 0, 2)), build("a b", row(0, 1, 1, 1), row(0, 1, 0, 2), nil), []int{0, 2, 1}},
	} {
		what := fmt.Sprintf("Least(%s)", show(c.m))
		least, class, e := system.Least(c.m)
		same(t, what, least, c.want)
		if !slices.Equal(class, c.class) || e != api.OK {
			t.Errorf("%s: %v %d, want %v", what, class, e, c.class)
		}
	}
}

// least is Least, by the definition.
func least(m api.System) (api.System, []int) {
	alike := alikePairs(m, m)
	class := slices.Repeat([]int{-1}, len(m.States))
	var first []int
	for _, state := range reachable(m, 0) {
		i := slices.IndexFunc(first, func(other int) bool { return alike[[2]int{state, other}] })
		if i < 0 {
			i = len(first)
			first = append(first, state)
		}
		class[state] = i
	}
	l := api.System{Actions: m.Actions}
	for i := range first {
		var edges []api.Edge
		for action := range m.Actions {
			for to := range first {
				e := api.Edge{Action: action, To: to}
				if hasEdge(m, class, i, e) {
					edges = append(edges, e)
				}
			}
		}
		l.States = append(l.States, edges)
	}
	return l, class
}

// hasEdge reports whether some state of a class has an edge that leads into
// another class.
func hasEdge(m api.System, class []int, i int, e api.Edge) bool {
	for state, edges := range m.States {
		for _, d := range edges {
			if class[state] == i && d.Action == e.Action && class[d.To] == e.To {
				return true
			}
		}
	}
	return false
}

func TestLeastOfRandomSystems(t *testing.T) {
	l := append(systems(), smallSystems()...)
	for _, m := range slices.Clone(l[:40]) {
		l = append(l, blown(m, 3))
	}
	for _, m := range l {
		what := fmt.Sprintf("Least(%s)", show(m))
		want, wants := least(m)
		got, class, e := system.Least(m)
		same(t, what, got, want)
		valid(t, what, got)
		if !slices.Equal(class, wants) || e != api.OK {
			t.Errorf("%s: %v %d, want %v", what, class, e, wants)
		}
	}
}

// hubs returns a chain to whose states many states lead, each to all of them.
func hubs() api.System {
	const states, hubs = 4940, 60
	m := chain(states, 1)
	m.Actions = []string{"a", "b"}
	var all []api.Edge
	for to := range states + hubs {
		all = append(all, api.Edge{Action: 1, To: to})
	}
	m.States[0] = append(m.States[0], all[states])
	for range hubs {
		m.States = append(m.States, all)
	}
	return m
}

// TestBehaviorOfTheLargestSystems has systems in which one class after the
// other is split from a large one: it takes long if all states are looked at
// again each time.
func TestBehaviorOfTheLargestSystems(t *testing.T) {
	steps := api.MaxEdges / api.MaxNodes
	end := edgesOfRing(api.MaxNodes, steps)
	end.States[api.MaxNodes-1] = nil
	for _, c := range []struct {
		what   string
		m      api.System
		states int
	}{
		{"thin chain", chain(api.MaxNodes, 1), api.MaxNodes}, {"thick chain", chain(api.MaxNodes, steps), api.MaxNodes},
		{"thin ring", ring(api.MaxNodes), 1}, {"thick ring", edgesOfRing(api.MaxNodes, steps), 1},
		{"ring with an end", end, api.MaxNodes}, {"most edges", edgesOf(api.MaxEdges), 2}, {"hubs", hubs(), 4941},
	} {
		l, class, e := system.Least(c.m)
		valid(t, c.what, l)
		if e != api.OK || len(l.States) != c.states || len(class) != len(c.m.States) {
			t.Errorf("%s: %d states, %d; want %d", c.what, len(l.States), e, c.states)
		}
		if is, e := system.Alike(c.m, l); !is || e != api.OK {
			t.Errorf("%s: Alike = %v %d", c.what, is, e)
		}
	}
	if is, e := system.Alike(chain(api.MaxNodes, steps), chain(api.MaxNodes-1, steps)); is || e != api.OK {
		t.Errorf("chains of different lengths: %v %d", is, e)
	}
	if is, e := system.Alike(ring(4999), ring(5000)); !is || e != api.OK {
		t.Errorf("rings of different lengths: %v %d", is, e)
	}
}

// P2.8: Least behaves like m; no two of its states behave alike.

func TestLeastBehavesLikeTheSystem(t *testing.T) {
	for _, m := range append(systems(), blown(tea(), 6), blown(chain(12, 3), 5)) {
		l, class, _ := system.Least(m)
		if is, e := system.Alike(m, l); !is || e != api.OK {
			t.Errorf("Least(%s) = %s: Alike = %v %d", show(m), show(l), is, e)
		}
		for state, c := range class {
			if c < 0 {
				continue
			}
			of, _, _ := system.Part(m, state)
			in, _, _ := system.Part(l, c)
			if is, _ := system.Alike(of, in); !is {
				t.Errorf("Least(%s): state %d does not behave like its class %d", show(m), state, c)
			}
		}
	}
}

func TestLeastHasNoStatesAlike(t *testing.T) {
	for _, m := range append(systems(), blown(tea(), 6), blown(chain(12, 3), 5)) {
		l, _, _ := system.Least(m)
		for i := range l.States {
			for j := range i {
				one, _, _ := system.Part(l, i)
				other, _, _ := system.Part(l, j)
				if is, e := system.Alike(one, other); is || e != api.OK {
					t.Errorf("Least(%s) = %s: states %d and %d behave alike", show(m), show(l), j, i)
				}
			}
		}
		again, class, _ := system.Least(l)
		same(t, "Least of Least", again, l)
		for state, c := range class {
			if state != c {
				t.Errorf("Least of Least: %v", class)
			}
		}
	}
}
