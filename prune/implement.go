package prune

import (
	"cmp"
	"iter"
	"slices"

	"makeweight/api"
	"makeweight/spec"
)

// maxSteps is the greatest number of actions of the words that Words returns.
const maxSteps = 4

// Some returns a system that satisfies s: ErrNone if s is hollow.
func Some(s api.Spec) (api.System, api.Errno) {
	trimmed, _, e := Trim(s)
	if e != api.OK {
		return api.System{}, e
	}
	if isNone(trimmed) {
		return api.System{}, api.ErrNone
	}
	return newPlan(trimmed).system(node{0, still}), api.OK
}

// With returns a system that satisfies s and has, after the word, a state that
// offers the set: ErrArg if the word is not one of the actions of s or the set
// not one of them, ErrNone if there is no such system.
func With(s api.Spec, word []int, set int) (api.System, api.Errno) {
	_, _, e := spec.After(s, word)
	if e != api.OK {
		return api.System{}, e
	}
	if set < 0 || set >= 1<<len(s.Actions) {
		return api.System{}, api.ErrArg
	}
	trimmed, _, _ := Trim(s)
	state, there, _ := spec.After(trimmed, word)
	if !there || !slices.Contains(trimmed.States[state].Accept, set) {
		return api.System{}, api.ErrNone
	}
	p := newPlan(trimmed)
	p.offers[state] = set
	return p.system(p.lay(word)), api.OK
}

// Words returns the words of n actions after which some system that satisfies s
// has a state, in lexicographic order: ErrArg if n is not from 0 to 4.
func Words(s api.Spec, n int) ([][]int, api.Errno) {
	trimmed, _, e := Trim(s)
	if e != api.OK {
		return nil, e
	}
	if n < 0 || n > maxSteps {
		return nil, api.ErrArg
	}
	if isNone(trimmed) {
		return nil, api.OK
	}
	return wordsFrom(trimmed, 0, n), api.OK
}

// isNone reports whether a trimmed specification is None: the states of other
// ones accept something.
func isNone(trimmed api.Spec) bool {
	return len(trimmed.States[0].Accept) == 0
}

// wordsFrom returns the words of n actions that lead on from a state.
func wordsFrom(s api.Spec, state, n int) [][]int {
	if n == 0 {
		return [][]int{nil}
	}
	var words [][]int
	for action, to := range s.States[state].Next {
		if to == nowhere {
			continue
		}
		for _, rest := range wordsFrom(s, to, n-1) {
			words = append(words, append([]int{action}, rest...))
		}
	}
	return words
}

// A node is a state of a system that does what a state of a specification
// allows. It is on an action with which a given word goes on there, or still.
// (A system with a state for each place of a long word would be too large.)
type node struct {
	state, on int
}

// still is that no word goes on.
const still = -1

// A plan says what the nodes of a system offer, and where they lead.
type plan struct {
	s      api.Spec       // a trimmed one that is not None
	offers []int          // for each state of s what its still node offers
	then   map[node][]int // for each node on an action what the nodes behind it are on
}

// newPlan returns the plan for no word, with the first set that each state
// accepts.
func newPlan(trimmed api.Spec) plan {
	p := plan{s: trimmed, then: map[node][]int{}}
	for _, state := range trimmed.States {
		p.offers = append(p.offers, state.Accept[0])
	}
	return p
}

// lay adds to the plan that the word goes on until a still node, and returns
// the node from which it starts.
func (p plan) lay(word []int) node {
	ons := append(slices.Clone(word), still)
	state := 0
	for i, action := range word {
		at := node{state, action}
		if !slices.Contains(p.then[at], ons[i+1]) {
			p.then[at] = append(p.then[at], ons[i+1])
		}
		state = p.s.States[state].Next[action]
	}
	return node{0, ons[0]}
}

// offered returns the set that a node offers: one with the action that it is
// on. (In a trimmed specification each action that leads on is in a set.)
func (p plan) offered(n node) int {
	if n.on == still {
		return p.offers[n.state]
	}
	accept := p.s.States[n.state].Accept
	return accept[slices.IndexFunc(accept, func(set int) bool { return set>>n.on&1 == 1 })]
}

// links yields the actions that a node offers, and the nodes to which they lead.
func (p plan) links(n node) iter.Seq2[int, node] {
	return func(yield func(int, node) bool) {
		for action, to := range leads(p.s.States[n.state], p.offered(n)) {
			ons := []int{still}
			if action == n.on {
				ons = p.then[n]
			}
			for _, on := range ons {
				if !yield(action, node{to, on}) {
					return
				}
			}
		}
	}
}

// system returns the system of the nodes that can be reached from a first one.
func (p plan) system(first node) api.System {
	m := api.System{Actions: slices.Clone(p.s.Actions)}
	numbers := map[node]int{first: 0}
	queue := []node{first}
	for i := 0; i < len(queue); i++ {
		var edges []api.Edge
		for action, to := range p.links(queue[i]) {
			number, known := numbers[to]
			if !known {
				number = len(queue)
				numbers[to] = number
				queue = append(queue, to)
			}
			edges = append(edges, api.Edge{Action: action, To: number})
		}
		slices.SortFunc(edges, byActionAndTo)
		m.States = append(m.States, edges)
	}
	return m
}

func byActionAndTo(e, f api.Edge) int {
	return cmp.Or(cmp.Compare(e.Action, f.Action), cmp.Compare(e.To, f.To))
}
