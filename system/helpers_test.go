package system_test

import (
	"fmt"
	"math/rand/v2"
	"slices"
	"strings"
	"testing"

	"makeweight/api"
	"makeweight/system"
)

// build returns the system with the names in a string and the given states. It
// does not look at what it is given, so that it also makes systems that are
// not valid.
func build(names string, states ...[]api.Edge) api.System {
	return api.System{Actions: strings.Fields(names), States: states}
}

// row returns the edges whose actions and targets take turns in the list.
func row(numbers ...int) []api.Edge {
	var edges []api.Edge
	for i := 0; i < len(numbers); i += 2 {
		edges = append(edges, api.Edge{Action: numbers[i], To: numbers[i+1]})
	}
	return edges
}

// clone returns a system that shares no memory with m.
func clone(m api.System) api.System {
	c := api.System{Actions: slices.Clone(m.Actions)}
	for _, edges := range m.States {
		c.States = append(c.States, slices.Clone(edges))
	}
	return c
}

// tea is example 1 of the chapter, stop may end after the coin, and long is
// like tea with two more states.
func tea() api.System  { return build("coin tea", row(0, 1), row(1, 0)) }
func stop() api.System { return build("coin tea", row(0, 1), nil) }
func long() api.System { return build("coin tea", row(0, 1), row(1, 2), row(0, 3), row(1, 0)) }

// ring returns the system with one action whose states stand in a ring.
func ring(states int) api.System {
	m := build("a")
	for state := range states {
		m.States = append(m.States, row(0, (state+1)%states))
	}
	return m
}

// chain returns the system with one action whose states stand in a row, each
// with edges to so many of the next ones.
func chain(states, next int) api.System {
	m := build("a")
	for state := range states {
		var edges []api.Edge
		for to := state + 1; to <= state+next && to < states; to++ {
			edges = append(edges, api.Edge{To: to})
		}
		m.States = append(m.States, edges)
	}
	return m
}

// full returns the system with one action and edges between all states.
func full(states int) api.System {
	m := build("a")
	for range states {
		var edges []api.Edge
		for to := range states {
			edges = append(edges, api.Edge{To: to})
		}
		m.States = append(m.States, edges)
	}
	return m
}

const letters = "a b c d e f g h"

// source returns a source of numbers that are the same in each run.
func source() *rand.Rand {
	return rand.New(rand.NewPCG(20, 2))
}

// random returns a valid system in which about one in so many edges exists.
func random(r *rand.Rand, actions, states, oneIn int) api.System {
	m := api.System{Actions: strings.Fields(letters)[:actions]}
	for range states {
		var edges []api.Edge
		for action := range actions {
			for to := range states {
				if r.IntN(oneIn) == 0 {
					edges = append(edges, api.Edge{Action: action, To: to})
				}
			}
		}
		m.States = append(m.States, edges)
	}
	return m
}

// systems returns valid systems of many shapes.
func systems() []api.System {
	l := []api.System{
		tea(), stop(), long(), ring(1), ring(7), chain(9, 3), full(4),
		build("", nil), build("", nil, nil), build("x-1 x_1 X", row(0, 0, 1, 0, 2, 0)),
		build(letters, row(7, 1), row(0, 0, 0, 1, 7, 0, 7, 1)),
		build("a b", row(0, 3, 1, 1), nil, row(0, 0), row(1, 1)),
	}
	r := source()
	for range 300 {
		l = append(l, random(r, r.IntN(4), 1+r.IntN(6), 1+r.IntN(8)))
	}
	for range 30 {
		l = append(l, random(r, api.MaxActions, 1+r.IntN(6), 1+r.IntN(12)))
	}
	return l
}

// badSystems returns systems that are not valid, each for another reason.
func badSystems() map[string]api.System {
	many := make([][]api.Edge, api.MaxNodes+1)
	wide := build("a", slices.Repeat(row(0, 0), 1<<20))
	return map[string]api.System{
		"nothing":            {},
		"no states":          build("coin tea"),
		"too many states":    build("a", many...),
		"far too many":       build("a", make([][]api.Edge, 1<<20)...),
		"empty name":         {Actions: []string{""}, States: [][]api.Edge{nil}},
		"digit first":        build("1a", nil),
		"long name":          build(strings.Repeat("x", api.MaxName+1), nil),
		"same names":         build("a b a", nil),
		"nine actions":       build(letters+" i", nil),
		"action too large":   build("a b", row(2, 0)),
		"action negative":    build("a b", row(-1, 0)),
		"edge of no actions": build("", row(0, 0)),
		"no state there":     build("a", row(0, 1)),
		"state negative":     build("a", row(0, -1)),
		"state far off":      build("a", row(0, 1<<40)),
		"second edge off":    build("a", row(0, 0, 0, 1)),
		"last state off":     build("a", row(0, 1), nil, row(0, 3)),
		"edge twice":         build("a", row(0, 0, 0, 0)),
		"actions unordered":  build("a b", row(1, 0, 0, 0)),
		"targets unordered":  build("a", row(0, 1, 0, 0), nil),
		"unordered behind":   build("a b", nil, row(0, 0, 0, 1, 1, 1, 1, 0)),
		"again later":        build("a b", row(0, 0, 1, 0, 0, 0)),
		"too many edges":     edgesOf(api.MaxEdges + 1),
		"one wide state":     wide,
	}
}

// edgesOf returns a system with so many edges, valid but for their number.
func edgesOf(edges int) api.System {
	const states = 640
	m := build("a")
	for range states {
		var l []api.Edge
		for to := 0; to < states && edges > 0; to++ {
			l = append(l, api.Edge{To: to})
			edges--
		}
		m.States = append(m.States, l)
	}
	return m
}

// show returns the beginning of a system as text.
func show(m api.System) string {
	s := fmt.Sprint(m.Actions, m.States)
	return s[:min(len(s), 400)]
}

// same fails the test unless a system is the expected one.
func same(t *testing.T, what string, got, want api.System) {
	t.Helper()
	if !slices.Equal(got.Actions, want.Actions) || !slices.EqualFunc(got.States, want.States, slices.Equal) {
		t.Errorf("%s: %s, want %s", what, show(got), show(want))
	}
}

// valid fails the test unless a system that was returned is valid.
func valid(t *testing.T, what string, m api.System) {
	t.Helper()
	if system.Check(m) != api.OK {
		t.Errorf("%s: %s is not valid", what, show(m))
	}
}
