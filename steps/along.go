package steps

import (
	"cmp"
	"iter"
	"slices"

	"makeweight/api"
	"makeweight/numbering"
)

// Along returns a system that satisfies s and has, after the word, which may be
// longer than others, a state that offers the set. The states of s are what
// Without leaves; the word leads to one of them, which accepts the set.
func Along(s api.Spec, word []int, set int) api.System {
	p := plan{s: s, set: set, then: map[node][]int{}}
	first := p.lay(word)
	return p.system(first)
}

// A node is a state of a system that does what a state of a specification
// allows. It is on an action with which a given word goes on there, or still.
// (A system with a state for each place of a long word would be too large.)
type node struct {
	state, on int
}

// still is that no word goes on.
const still = -1

// A plan says what the nodes of a system offer, and where they lead.
type plan struct {
	s    api.Spec
	last int            // the state after the word
	set  int            // what its still node offers
	then map[node][]int // for each node on an action what the nodes behind it are on
}

// lay adds to the plan that the word goes on until a still node, and returns
// the node from which it starts.
func (p *plan) lay(word []int) node {
	ons := append(slices.Clone(word), still)
	for i, action := range word {
		at := node{p.last, action}
		if !slices.Contains(p.then[at], ons[i+1]) {
			p.then[at] = append(p.then[at], ons[i+1])
		}
		p.last = p.s.States[p.last].Next[action]
	}
	return node{0, ons[0]}
}

// offered returns the set that a node offers: one with the action that it is
// on. (Each action that leads on is in a set.)
func (p *plan) offered(n node) int {
	accept := p.s.States[n.state].Accept
	switch {
	case n.on != still:
		return accept[slices.IndexFunc(accept, func(set int) bool { return set>>n.on&1 == 1 })]
	case n.state == p.last:
		return p.set
	}
	return accept[0]
}

// links yields the actions that a node offers, and the nodes to which they lead.
func (p *plan) links(n node) iter.Seq2[int, node] {
	return func(yield func(int, node) bool) {
		for action, to := range Leads(p.s.States[n.state], p.offered(n)) {
			ons := []int{still}
			if action == n.on {
				ons = p.then[n]
			}
			for _, on := range ons {
				if !yield(action, node{to, on}) {
					return
				}
			}
		}
	}
}

// system returns the system of the nodes that can be reached from a first one.
func (p *plan) system(first node) api.System {
	m := api.System{Actions: slices.Clone(p.s.Actions)}
	nodes := numbering.Of(first)
	for i := 0; i < len(nodes.Values); i++ {
		var edges []api.Edge
		for action, to := range p.links(nodes.Values[i]) {
			edges = append(edges, api.Edge{Action: action, To: nodes.Number(to)})
		}
		slices.SortFunc(edges, byActionAndTo)
		m.States = append(m.States, edges)
	}
	return m
}

func byActionAndTo(e, f api.Edge) int {
	return cmp.Or(cmp.Compare(e.Action, f.Action), cmp.Compare(e.To, f.To))
}
