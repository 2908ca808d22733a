package product_test

import (
	"fmt"
	"slices"
	"testing"

	"makeweight/api"
	"makeweight/prune"
	"makeweight/spec"
)

// What results must allow, by the definitions: after each word exactly the sets
// that products offer there.

// A part is what is composed: the systems that satisfy a specification, or one
// system. After a word they can be in some of its states, where the edges lead.
// In each state any of some sets can be offered.
type part struct {
	first  []int
	offers [][]int
	edges  [][]api.Edge
}

// partOf returns the part of the systems that satisfy s.
func partOf(s api.Spec) part {
	hollow := hollowOf(s)
	p := part{first: []int{0}}
	if hollow[0] {
		p.first = nil
	}
	for _, state := range s.States {
		left := leftOf(state, hollow)
		var edges []api.Edge
		for _, action := range actionsOf(left) {
			edges = append(edges, api.Edge{Action: action, To: state.Next[action]})
		}
		p.offers, p.edges = append(p.offers, left), append(p.edges, edges)
	}
	return p
}

// partWith returns the part of a system.
func partWith(m api.System) part {
	p := part{first: []int{0}, edges: m.States}
	for _, edges := range m.States {
		set := 0
		for _, e := range edges {
			set |= 1 << e.Action
		}
		p.offers = append(p.offers, sets(set))
	}
	return p
}

// hollowOf returns for each state of s whether it is hollow.
func hollowOf(s api.Spec) []bool {
	hollow := make([]bool, len(s.States))
	for changed := true; changed; {
		changed = false
		for number, state := range s.States {
			if !hollow[number] && len(leftOf(state, hollow)) == 0 {
				hollow[number], changed = true, true
			}
		}
	}
	return hollow
}

// leftOf returns the sets of a state none of whose actions lead to hollow ones.
func leftOf(state api.State, hollow []bool) []int {
	return slices.DeleteFunc(slices.Clone(state.Accept), func(set int) bool {
		return !canLead(state, set, func(to int) bool { return !hollow[to] })
	})
}

// actionsOf returns the actions that are in any of some sets.
func actionsOf(l []int) []int {
	var actions []int
	for action := range api.MaxActions {
		if slices.ContainsFunc(l, func(set int) bool { return has(set, action) }) {
			actions = append(actions, action)
		}
	}
	return actions
}

// A task is the parts of a composition.
type task struct {
	actions []string
	parts   []part
}

func taskOf(actions []string, l ...api.Spec) task {
	t := task{actions: actions}
	for _, s := range l {
		t.parts = append(t.parts, partOf(s))
	}
	return t
}

// beside returns the task with a system as one more part.
func (t task) beside(m api.System) task {
	t.parts = append(slices.Clone(t.parts), partWith(m))
	return t
}

// A place is where the parts can be after a word.
type place [][]int

func (t task) start() place {
	var p place
	for _, part := range t.parts {
		p = append(p, part.first)
	}
	return p
}

// offered returns the sets that are offered at a place, in order.
func (t task) offered(p place) []int {
	l := sets(1<<len(t.actions) - 1)
	for i, part := range t.parts {
		var marked [1 << api.MaxActions]bool
		for _, state := range p[i] {
			for _, set := range part.offers[state] {
				for _, other := range l {
					marked[set&other] = true
				}
			}
		}
		l = nil
		for set := range 1 << len(t.actions) {
			if marked[set] {
				l = append(l, set)
			}
		}
	}
	return l
}

// behind returns the place behind an action.
func (t task) behind(p place, action int) place {
	var next place
	for i, part := range t.parts {
		var l []int
		for _, state := range p[i] {
			for _, e := range part.edges[state] {
				if e.Action == action {
					l = append(l, e.To)
				}
			}
		}
		slices.Sort(l)
		next = append(next, slices.Compact(l))
	}
	return next
}

// offeredAfter returns the sets that are offered after a word, in order.
func (t task) offeredAfter(word []int) []int {
	p := t.start()
	for _, action := range word {
		if !slices.Contains(actionsOf(t.offered(p)), action) {
			return nil
		}
		p = t.behind(p, action)
	}
	return t.offered(p)
}

// check fails the test unless a result is trim, and allows exactly what is
// offered at each place.
func (t task) check(test *testing.T, what string, s api.Spec, e api.Errno) {
	test.Helper()
	if e != api.OK || spec.Check(s) != api.OK || !slices.Equal(s.Actions, t.actions) {
		test.Errorf("%s: %s %d", what, show(s), e)
		return
	}
	if trimmed, _, _ := prune.Trim(s); !spec.Same(trimmed, s) {
		test.Errorf("%s: %s is not trim", what, show(s))
	}
	met := map[string]bool{}
	var visit func(p place, state int)
	visit = func(p place, state int) {
		name := fmt.Sprint(p, state)
		if met[name] {
			return
		}
		met[name] = true
		offered := t.offered(p)
		if !slices.Equal(offered, s.States[state].Accept) {
			test.Errorf("%s: %s accepts %v at %v, want %v", what, show(s), s.States[state].Accept, p, offered)
			return
		}
		for _, action := range actionsOf(offered) {
			visit(t.behind(p, action), s.States[state].Next[action])
		}
	}
	visit(t.start(), 0)
}

// checkOrLarge fails the test unless a result is right, or is refused.
func (t task) checkOrLarge(test *testing.T, what string, s api.Spec, e api.Errno) {
	test.Helper()
	if e == api.ErrLarge {
		refused(test, what, s, e, api.ErrLarge)
		return
	}
	t.check(test, what, s, e)
}

// freest returns, for each set that a system that satisfies s may offer first,
// a system that satisfies s and offers it, and that has after each word that is
// possible then for each set that is possible there a state that offers it.
// What all of them do shows what all systems that satisfy s do.
func freest(s api.Spec) []api.System {
	hollow := hollowOf(s)
	if hollow[0] {
		return nil
	}
	var l []api.System
	for _, set := range leftOf(s.States[0], hollow) {
		l = append(l, freestFrom(s, hollow, set))
	}
	return l
}

// freestFrom returns the one of them whose state 0 offers a set.
func freestFrom(s api.Spec, hollow []bool, set int) api.System {
	nodes := [][2]int{{0, set}} // states of s, and what is offered there
	for number, state := range s.States {
		for _, set := range leftOf(state, hollow) {
			if n := [2]int{number, set}; n != nodes[0] {
				nodes = append(nodes, n)
			}
		}
	}
	m := api.System{Actions: s.Actions}
	for _, n := range nodes {
		var edges []api.Edge
		for _, action := range actionsOf(sets(n[1])) {
			for place, next := range nodes {
				if next[0] == s.States[n[0]].Next[action] {
					edges = append(edges, api.Edge{Action: action, To: place})
				}
			}
		}
		m.States = append(m.States, edges)
	}
	return m
}
