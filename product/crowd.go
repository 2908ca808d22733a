package product

import (
	"slices"

	"makeweight/api"
	"makeweight/numbering"
	"makeweight/pairs"
	"makeweight/terms"
)

// A crowd is the states in which a system can be after a word.
type crowd [api.MaxNodes]bool

// sideOf returns the side of a system. Its states are the crowds that were found
// so far.
func sideOf(m api.System) pairs.Side {
	crowds := numbering.Of(crowd{0: true})
	return pairs.Side{
		Accept: func(number int) []int { return crowds.Values[number].offers(m) },
		Lead: func(number, action int) int {
			next := crowds.Values[number].after(m, action)
			return crowds.Number(next)
		},
	}
}

// offers returns the sets that states of a crowd offer, in order.
func (c crowd) offers(m api.System) []int {
	var sets []int
	for state, edges := range m.States {
		if c[state] {
			sets = append(sets, terms.Offered(edges))
		}
	}
	slices.Sort(sets)
	return slices.Compact(sets)
}

// after returns the crowd to which an action leads.
func (c crowd) after(m api.System, action int) crowd {
	var next crowd
	for state, edges := range m.States {
		if !c[state] {
			continue
		}
		for _, e := range edges {
			if e.Action == action {
				next[e.To] = true
			}
		}
	}
	return next
}
