package system

import (
	"slices"

	"makeweight/api"
	"makeweight/numbering"
)

// Product returns the product of two systems, and for each of its states the
// pair that it is: ErrLarge if it has too many states or edges.
func Product(m, n api.System) (api.System, [][2]int, api.Errno) {
	if e := checkBoth(m, n); e != api.OK {
		return api.System{}, nil, e
	}
	left, right := fansOf(m), fansOf(n)
	found := numbering.Of([2]int{0, 0})
	product := api.System{Actions: slices.Clone(m.Actions)}
	total := 0
	for i := 0; i < len(found.Values); i++ {
		pair := found.Values[i]
		f, g := &left[pair[0]], &right[pair[1]]
		// The edges are counted before they are made: one pair can have
		// far more of them than there may be.
		total += countJoint(f, g)
		if total > api.MaxEdges {
			return api.System{}, nil, api.ErrLarge
		}
		product.States = append(product.States, jointEdges(f, g, found))
		if len(found.Values) > api.MaxNodes {
			return api.System{}, nil, api.ErrLarge
		}
	}
	return product, found.Values, api.OK
}

// countJoint returns the number of edges of the pair of states with fans f, g.
func countJoint(f, g *fan) int {
	count := 0
	for action := range f {
		count += len(f[action]) * len(g[action])
	}
	return count
}

// jointEdges returns the edges of the pair of states with fans f and g, and
// numbers the pairs to which they lead.
func jointEdges(f, g *fan, found *numbering.List[[2]int]) []api.Edge {
	var edges []api.Edge
	for action := range f {
		for _, d := range f[action] {
			for _, e := range g[action] {
				edges = append(edges, api.Edge{Action: action, To: found.Number([2]int{d.To, e.To})})
			}
		}
	}
	slices.SortFunc(edges, compareEdges)
	return edges
}
