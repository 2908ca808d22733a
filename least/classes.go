package least

import (
	"iter"
	"slices"

	"makeweight/api"
	"makeweight/numbering"
	"makeweight/steps"
)

// A menu says of each set of actions whether a state accepts it.
type menu [1 << api.MaxActions]bool

// An outlook is the class of a state, and those to which its actions lead.
type outlook struct {
	class int
	to    [api.MaxActions]int
}

// classes returns for each state the number of its class, in the order of their
// first states. The states have only sets that lead to no hollow one, and only
// the actions in these sets: each set is then offered by some implementation, so
// that states have the same implementations if and only if they accept the same
// sets, and lead to states that have the same ones.
func classes(states []api.State) []int {
	var last []int
	for classOf := range rounds(states) {
		if slices.Equal(classOf, last) {
			break // no class was split
		}
		last = classOf
	}
	return last
}

// rounds yields for each state the number of its class: first by what it
// accepts, then, over and over, also by the classes to which it leads.
func rounds(states []api.State) iter.Seq[[]int] {
	return func(yield func(classOf []int) bool) {
		classOf := numbered(states, func(_ int, state api.State) menu { return menuOf(state.Accept) })
		for yield(classOf) {
			classOf = numbered(states, func(number int, state api.State) outlook {
				return outlookOf(classOf[number], state.Next, classOf)
			})
		}
	}
}

// numbered returns for each item the number of its key among the different keys,
// in the order of their first occurrence.
func numbered[T any, K comparable](items []T, keyOf func(place int, item T) K) []int {
	keys := numbering.Of[K]()
	var l []int
	for place, item := range items {
		l = append(l, keys.Number(keyOf(place, item)))
	}
	return l
}

func menuOf(accept []int) menu {
	var m menu
	for _, set := range accept {
		m[set] = true
	}
	return m
}

func outlookOf(class int, next, classOf []int) outlook {
	o := outlook{class: class}
	copy(o.to[:], next)
	steps.Renumber(o.to[:len(next)], classOf)
	return o
}
