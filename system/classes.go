package system

import (
	"makeweight/api"
	"makeweight/terms"
)

// classes returns for each state a number that it has in common with those
// that behave alike, and with no others.
//
// The states are first split by what they offer. Classes are then split
// further, in the way of Paige and Tarjan: groups of classes are such that the
// states of one class agree on the actions with which they lead into a group.
// As long as a group has several classes, one with at most half of its states
// becomes a group of its own, and the classes are split by their edges into
// it. So each edge is looked at only as often as its target's group halves.
func classes(states [][]api.Edge) []int {
	s := newSplitter(states)
splitting:
	for len(s.loose) > 0 {
		from, into, targets := s.divideGroup()
		for action := range api.MaxActions {
			s.splitBy(action, from, into, targets)
			if len(s.classes) == len(states) {
				break splitting // nothing is left to be split
			}
		}
	}
	return s.classOf
}

// A splitter splits the classes of a partition by the edges of their states.
type splitter struct {
	partition
	// sources has for each state and action the states whose edges with it
	// lead to this one.
	sources [][api.MaxActions][]int
	// edges has the number of edges for a state, an action and a group.
	edges map[[3]int]int
	// hits is all zeros between two calls of splitBy.
	hits []int
}

func newSplitter(states [][]api.Edge) *splitter {
	s := &splitter{
		partition: newPartition(len(states)),
		sources:   make([][api.MaxActions][]int, len(states)),
		edges:     map[[3]int]int{},
		hits:      make([]int, len(states)),
	}
	var offering [1 << api.MaxActions][]int
	for state, edges := range states {
		set := terms.Offered(edges)
		offering[set] = append(offering[set], state)
		for _, e := range edges {
			l := &s.sources[e.To][e.Action]
			*l = append(*l, state)
			s.edges[[3]int{state, e.Action, 0}]++
		}
	}
	for _, l := range offering {
		s.split(l)
	}
	return s
}

// splitBy splits the classes by the edges with an action, after the targets
// have left the group `from` for the group `into`: by whether there is one
// that leads into the one, and one that leads into the other.
func (s *splitter) splitBy(action, from, into int, targets []int) {
	var sources, only []int
	for _, target := range targets {
		for _, source := range s.sources[target][action] {
			if s.hits[source] == 0 {
				sources = append(sources, source)
			}
			s.hits[source]++
		}
	}
	for _, source := range sources {
		left, moved := [3]int{source, action, from}, [3]int{source, action, into}
		s.edges[moved] = s.hits[source]
		s.edges[left] -= s.hits[source]
		if s.edges[left] == 0 {
			delete(s.edges, left)
			only = append(only, source)
		}
		s.hits[source] = 0
	}
	s.split(sources)
	s.split(only)
}
