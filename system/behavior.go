package system

import (
	"slices"

	"makeweight/api"
	"makeweight/numbering"
)

// Alike reports whether the states 0 of two systems behave alike.
func Alike(m, n api.System) (bool, api.Errno) {
	if e := checkBoth(m, n); e != api.OK {
		return false, e
	}
	alike := classes(beside(m.States, n.States))
	return alike[0] == alike[len(m.States)], api.OK
}

// Least returns the system of the classes of states that can be reached and
// behave alike, and for each state of m the number of its class, or -1 if it
// cannot be reached.
func Least(m api.System) (api.System, []int, api.Errno) {
	part, numbers, e := Part(m, 0)
	if e != api.OK {
		return api.System{}, nil, e
	}
	alike := classes(part.States)
	found := numbering.Of[int]()
	least := api.System{Actions: part.Actions}
	classOf := slices.Repeat([]int{-1}, len(m.States))
	for state, number := range numbers {
		c := found.Number(alike[state])
		classOf[number] = c
		if c == len(least.States) {
			least.States = append(least.States, part.States[state])
		}
	}
	// So far a class has the edges of its first state. The other ones lead to
	// the same classes.
	for c, edges := range least.States {
		l := redirect(edges, func(to int) int { return classOf[numbers[to]] })
		least.States[c] = slices.Compact(l)
	}
	return least, classOf, api.OK
}

// beside returns the states of two systems in one list, those of the second
// one behind those of the first one.
func beside(m, n [][]api.Edge) [][]api.Edge {
	both := slices.Clone(m)
	for _, edges := range n {
		both = append(both, redirect(edges, func(to int) int { return to + len(m) }))
	}
	return both
}
