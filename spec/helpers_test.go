package spec_test

import (
	"fmt"
	"math/rand/v2"
	"slices"
	"strings"
	"testing"

	"makeweight/api"
	"makeweight/spec"
	"makeweight/system"
)

// build returns the specification with the names in a string and the given
// states. It does not look at what it is given, so that it also makes
// specifications that are not valid.
func build(names string, states ...api.State) api.Spec {
	return api.Spec{Actions: strings.Fields(names), States: states}
}

// at returns a state.
func at(accept []int, next ...int) api.State {
	return api.State{Accept: accept, Next: next}
}

// sets returns a list of sets.
func sets(l ...int) []int {
	return l
}

// of returns the specification of a string, where semicolons stand for line
// feeds.
func of(text string) api.Spec {
	s, e := spec.Parse(strings.ReplaceAll(text, ";", "\n"))
	if e != api.OK {
		panic(text)
	}
	return s
}

// run returns the system of a string, in the same way.
func run(text string) api.System {
	m, e := system.Parse(strings.ReplaceAll(text, ";", "\n"))
	if e != api.OK {
		panic(text)
	}
	return m
}

// may is example 1 of the chapter, and tea a system that satisfies it.
func may() api.Spec   { return build("coin tea", at(sets(1), 1, -1), at(sets(0, 2), -1, 0)) }
func tea() api.System { return run("system coin tea;0: coin 1;1: tea 0") }

// clone returns a specification that shares no memory with s.
func clone(s api.Spec) api.Spec {
	c := api.Spec{Actions: slices.Clone(s.Actions)}
	for _, state := range s.States {
		c.States = append(c.States, api.State{Accept: slices.Clone(state.Accept), Next: slices.Clone(state.Next)})
	}
	return c
}

func cloneSystem(m api.System) api.System {
	c := api.System{Actions: slices.Clone(m.Actions)}
	for _, edges := range m.States {
		c.States = append(c.States, slices.Clone(edges))
	}
	return c
}

const letters = "a b c d e f g h"

// source returns a source of numbers that are the same in each run.
func source() *rand.Rand {
	return rand.New(rand.NewPCG(20, 3))
}

// random returns a valid specification in which about one in so many actions
// leads nowhere, and one in so many sets is not accepted.
func random(r *rand.Rand, actions, states, oneIn int) api.Spec {
	s := build(letters)
	s.Actions = s.Actions[:actions]
	for range states {
		state := api.State{}
		leading := 0
		for action := range actions {
			to := r.IntN(states)
			if r.IntN(oneIn) == 0 {
				to = -1
			} else {
				leading |= 1 << action
			}
			state.Next = append(state.Next, to)
		}
		for set := range 1 << actions {
			if set&leading == set && r.IntN(oneIn) > 0 {
				state.Accept = append(state.Accept, set)
			}
		}
		s.States = append(s.States, state)
	}
	return s
}

// randomSystem returns a valid system in which about one in so many edges
// exists.
func randomSystem(r *rand.Rand, actions, states, oneIn int) api.System {
	m := api.System{Actions: strings.Fields(letters)[:actions]}
	for range states {
		var edges []api.Edge
		for action := range actions {
			for to := range states {
				if r.IntN(oneIn) == 0 {
					edges = append(edges, api.Edge{Action: action, To: to})
				}
			}
		}
		m.States = append(m.States, edges)
	}
	return m
}

// ring returns the specification with one action whose states stand in a ring
// and accept that there is an edge.
func ring(states int) api.Spec {
	s := build("a")
	for state := range states {
		s.States = append(s.States, at(sets(1), (state+1)%states))
	}
	return s
}

// ringSystem returns the system whose states stand in a ring, each with edges
// to so many of the next ones.
func ringSystem(states, next int) api.System {
	m := api.System{Actions: []string{"a"}}
	for state := range states {
		var edges []api.Edge
		for i := range next {
			edges = append(edges, api.Edge{To: (state + i + 1) % states})
		}
		slices.SortFunc(edges, func(e, f api.Edge) int { return e.To - f.To })
		m.States = append(m.States, edges)
	}
	return m
}

// specs returns valid specifications of many shapes.
func specs() []api.Spec {
	l := []api.Spec{
		may(), ring(1), ring(7), build("", at(nil)), build("", at(sets(0))), build("", at(nil), at(sets(0))),
		build("x-1 x_1 X", at(sets(0, 3, 5, 7), 0, 0, 0)), build("a", at(nil, -1)), build("a", at(nil, 0)),
		build(letters, at(sets(0, 128, 129), 1, -1, -1, -1, -1, -1, -1, 0), at(sets(255), 1, 1, 1, 1, 1, 1, 1, 1)),
	}
	r := source()
	for range 200 {
		l = append(l, random(r, r.IntN(4), 1+r.IntN(5), 1+r.IntN(6)))
	}
	for range 5 {
		l = append(l, random(r, api.MaxActions, 1+r.IntN(3), 1+r.IntN(6)))
	}
	return l
}

// badSpecs returns specifications that are not valid, each for another reason.
func badSpecs() map[string]api.Spec {
	const long = 1 << 20
	return map[string]api.Spec{
		"nothing":                {},
		"no states":              build("coin tea"),
		"no states, no actions":  build(""),
		"too many states":        build("a", slices.Repeat([]api.State{at(nil, -1)}, api.MaxStates+1)...),
		"far too many":           build("a", slices.Repeat([]api.State{at(nil, -1)}, long)...),
		"empty name":             {Actions: []string{""}, States: []api.State{at(nil, -1)}},
		"digit first":            build("1a", at(nil, -1)),
		"long name":              build(strings.Repeat("x", api.MaxName+1), at(nil, -1)),
		"same names":             build("a b a", at(nil, -1, -1, -1)),
		"nine actions":           build(letters+" i", at(nil, -1, -1, -1, -1, -1, -1, -1, -1, -1)),
		"no next":                build("a", at(nil)),
		"next of no actions":     build("", at(nil, -1)),
		"one next too few":       build("a b", at(nil, 0)),
		"one next too many":      build("a b", at(nil, 0, 0, 0)),
		"far too many of them":   build("a", at(nil, make([]int, long)...)),
		"next below -1":          build("a", at(nil, -2)),
		"next far below":         build("a", at(nil, -1<<62)),
		"next behind the last":   build("a", at(nil, 1)),
		"next far off":           build("a", at(nil, 1<<62)),
		"next of the last":       build("a b", at(nil, 1, 2), at(nil, 2, 0), at(nil, 0, 3)),
		"sets out of order":      build("a", at(sets(1, 0), 0)),
		"out of order later":     build("a b", at(sets(0, 2, 1), 0, 0)),
		"set twice":              build("a", at(sets(1, 1), 0)),
		"set twice, later":       build("a b", at(sets(0, 3, 3), 0, 0)),
		"empty set twice":        build("", at(sets(0, 0))),
		"far too many sets":      build("a", at(make([]int, long), 0)),
		"negative set":           build("a", at(sets(-1), 0)),
		"negative set, first":    build("a", at(sets(-2, 0), 0)),
		"set of another action":  build("a", at(sets(2), 0)),
		"set of eight actions":   build("a", at(sets(0, 1, 255), 0)),
		"far too large":          build("a", at(sets(1<<62), 0)),
		"set of no actions":      build("", at(sets(1))),
		"set that leads nowhere": build("a", at(sets(1), -1)),
		"part leads nowhere":     build("a b", at(sets(0, 1, 3), 0, -1)),
		"last state is bad":      build("a", at(sets(1), 1), at(sets(1), 2), at(sets(1), -1)),
		"unreached state is bad": build("a", at(sets(1), 0), at(sets(1), -1)),
	}
}

// badSystems returns some systems that are not valid.
func badSystems() map[string]api.System {
	return map[string]api.System{
		"nothing":         {},
		"no states":       {Actions: []string{"a"}},
		"edge off":        {Actions: []string{"a"}, States: [][]api.Edge{{{Action: 0, To: 1}}}},
		"edge twice":      {Actions: []string{"a"}, States: [][]api.Edge{{{Action: 0, To: 0}, {Action: 0, To: 0}}}},
		"same names":      {Actions: []string{"a", "a"}, States: [][]api.Edge{nil}},
		"too many states": {Actions: []string{"a"}, States: make([][]api.Edge, api.MaxNodes+1)},
	}
}

// show returns the beginning of values as text.
func show(l ...any) string {
	s := fmt.Sprint(l...)
	return s[:min(len(s), 400)]
}

// same fails the test unless a specification is the expected one.
func same(t *testing.T, what string, got, want api.Spec) {
	t.Helper()
	equal := slices.EqualFunc(got.States, want.States, func(s, t api.State) bool {
		return slices.Equal(s.Accept, t.Accept) && slices.Equal(s.Next, t.Next)
	})
	if !equal || !slices.Equal(got.Actions, want.Actions) {
		t.Errorf("%s: %s, want %s", what, show(got), show(want))
	}
}

// valid fails the test unless a specification that was returned is valid.
func valid(t *testing.T, what string, s api.Spec) {
	t.Helper()
	if spec.Check(s) != api.OK {
		t.Errorf("%s: %s is not valid", what, show(s))
	}
}
