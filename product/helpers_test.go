package product_test

import (
	"fmt"
	"math/rand/v2"
	"slices"
	"strings"
	"testing"

	"makeweight/api"
	"makeweight/least"
	"makeweight/refine"
	"makeweight/spec"
	"makeweight/system"
)

const (
	letters = "a b c d e f g h"
	may     = "spec coin tea;0: {coin} -> coin 1;1: {} {tea} -> tea 0"
	always  = "spec coin tea;0: {coin} -> coin 1;1: {tea} -> tea 0"
)

// of returns the specification of a string, where semicolons stand for line
// feeds.
func of(text string) api.Spec {
	s, e := spec.Parse(strings.ReplaceAll(text, ";", "\n"))
	if e != api.OK {
		panic(text)
	}
	return s
}

// run returns the system of a string, in the same way.
func run(text string) api.System {
	m, e := system.Parse(strings.ReplaceAll(text, ";", "\n"))
	if e != api.OK {
		panic(text)
	}
	return m
}

// names returns the first ones of some names of actions.
func names(actions int) []string {
	return strings.Fields(letters)[:actions]
}

// build returns the specification with the names in a string and the given
// states, valid or not.
func build(names string, states ...api.State) api.Spec {
	return api.Spec{Actions: strings.Fields(names), States: states}
}

func at(accept []int, next ...int) api.State {
	return api.State{Accept: accept, Next: next}
}

func sets(l ...int) []int {
	return l
}

func all(names string) api.Spec {
	s, _ := spec.All(strings.Fields(names))
	return s
}

func none(names string) api.Spec {
	s, _ := spec.None(strings.Fields(names))
	return s
}

// together returns the specification whose implementations always offer all
// actions.
func together(names string) api.Spec {
	s := all(names)
	s.States[0].Accept = s.States[0].Accept[len(s.States[0].Accept)-1:]
	return s
}

// clone returns a specification that shares no memory with s.
func clone(s api.Spec) api.Spec {
	c := api.Spec{Actions: slices.Clone(s.Actions)}
	for _, state := range s.States {
		c.States = append(c.States, at(slices.Clone(state.Accept), slices.Clone(state.Next)...))
	}
	return c
}

// show returns the beginning of values as text.
func show(l ...any) string {
	s := fmt.Sprint(l...)
	return s[:min(len(s), 400)]
}

// source returns a source of numbers that are the same in each run.
func source() *rand.Rand {
	return rand.New(rand.NewPCG(20, 8))
}

// random returns a valid specification in which about one in so many actions
// leads nowhere, and one in so many sets is not accepted.
func random(r *rand.Rand, actions, states, oneIn int) api.Spec {
	s := api.Spec{Actions: names(actions)}
	for range states {
		state := api.State{}
		for range actions {
			to := r.IntN(states)
			if r.IntN(oneIn) == 0 {
				to = -1
			}
			state.Next = append(state.Next, to)
		}
		for set := range 1 << actions {
			if canLead(state, set, func(to int) bool { return to >= 0 }) && r.IntN(oneIn) > 0 {
				state.Accept = append(state.Accept, set)
			}
		}
		s.States = append(s.States, state)
	}
	return s
}

// sparse returns a valid specification in which all actions lead on, and states
// accept up to three sets, most of which have many actions.
func sparse(r *rand.Rand, actions, states int) api.Spec {
	s := api.Spec{Actions: names(actions)}
	for range states {
		state := api.State{}
		for range actions {
			state.Next = append(state.Next, r.IntN(states))
		}
		for range min(r.IntN(12), 3) {
			state.Accept = append(state.Accept, r.IntN(1<<actions)|r.IntN(1<<actions))
		}
		slices.Sort(state.Accept)
		state.Accept = slices.Compact(state.Accept)
		s.States = append(s.States, state)
	}
	return s
}

// randomSystem returns a valid system in which about one in so many edges
// exists.
func randomSystem(r *rand.Rand, actions, states, oneIn int) api.System {
	m := api.System{Actions: names(actions)}
	for range states {
		var edges []api.Edge
		for action := range actions {
			for to := range states {
				if r.IntN(oneIn) == 0 {
					edges = append(edges, api.Edge{Action: action, To: to})
				}
			}
		}
		m.States = append(m.States, edges)
	}
	return m
}

// couples returns pairs of valid specifications with the same actions, of many
// shapes: with hollow states, with states that are not reached, with sets that
// have nothing in common.
func couples() [][2]api.Spec {
	var l [][2]api.Spec
	for _, c := range compositions() {
		l = append(l, [2]api.Spec{of(c.s), of(c.t)})
	}
	r := source()
	for range 200 {
		actions := r.IntN(4)
		s, t := random(r, actions, 1+r.IntN(5), 2+r.IntN(5)), random(r, actions, 1+r.IntN(5), 2+r.IntN(5))
		u, v := sparse(r, actions, 1+r.IntN(5)), sparse(r, actions, 1+r.IntN(5))
		l = append(l, [2]api.Spec{s, t}, [2]api.Spec{s, u}, [2]api.Spec{v, u}, [2]api.Spec{u, u})
		l = append(l, [2]api.Spec{sparse(r, 3, 1+r.IntN(5)), sparse(r, 3, 1+r.IntN(5))})
	}
	for _, names := range []string{"", "a", "a b", letters} {
		s := random(r, len(strings.Fields(names)), 3, 4)
		for _, t := range []api.Spec{s, all(names), none(names), together(names)} {
			l = append(l, [2]api.Spec{t, all(names)}, [2]api.Spec{none(names), t}, [2]api.Spec{t, together(names)})
		}
	}
	return l
}

// ring returns the specification with one action whose states stand in a ring,
// each of which must lead to the next one, but the first one may stop.
func ring(states int) api.Spec {
	s := build("a")
	for state := range states {
		s.States = append(s.States, at(sets(1), (state+1)%states))
	}
	s.States[0].Accept = sets(0, 1)
	return s
}

// full returns a specification that accepts everything.
func full(names string, states int, to func(state, action int) int) api.Spec {
	s := build(names)
	for state := range states {
		whole := all(names).States[0]
		for action := range s.Actions {
			whole.Next[action] = to(state, action)
		}
		s.States = append(s.States, whole)
	}
	return s
}

// badSpecs returns specifications that are not valid.
func badSpecs() map[string]api.Spec {
	return map[string]api.Spec{
		"nothing":         {},
		"no states":       build("a b"),
		"too many states": ring(api.MaxStates + 1),
		"same names":      build("a a", at(sets(0), -1, -1)),
		"nine actions":    build(letters+" i", at(nil, -1, -1, -1, -1, -1, -1, -1, -1, -1)),
		"no next":         build("a", at(nil)),
		"next too many":   build("a", at(nil, 0, 0)),
		"next below -1":   build("a", at(nil, -2)),
		"next to nothing": build("a", at(sets(0), 1)),
		"sets turned":     build("a", at(sets(1, 0), 0)),
		"set twice":       build("a", at(sets(1, 1), 0)),
		"negative set":    build("a", at(sets(-1), 0)),
		"other action":    build("a", at(sets(2), 0)),
		"leads nowhere":   build("a", at(sets(0), -1), at(sets(1), -1)),
	}
}

// badSystems returns systems that are not valid.
func badSystems() map[string]api.System {
	row := func(edges ...api.Edge) api.System { return api.System{Actions: names(1), States: [][]api.Edge{edges}} }
	return map[string]api.System{
		"nothing":         {},
		"no states":       {Actions: names(1)},
		"too many states": {Actions: names(1), States: make([][]api.Edge, api.MaxNodes+1)},
		"same names":      {Actions: []string{"a", "a"}, States: [][]api.Edge{nil}},
		"to no state":     row(api.Edge{Action: 0, To: 1}),
		"to a negative":   row(api.Edge{Action: 0, To: -1}),
		"other action":    row(api.Edge{Action: 1, To: 0}),
		"negative action": row(api.Edge{Action: -1, To: 0}),
		"edge twice":      row(api.Edge{}, api.Edge{}),
	}
}

// badActions returns lists that are not of actions.
func badActions() map[string][]string {
	return map[string][]string{
		"empty name": {""}, "twice": {"a", "a"}, "nine": strings.Fields(letters + " i"), "digit": {"1a"}, "blank": {"a b"}, "long": {strings.Repeat("x", api.MaxName+1)},
	}
}

// has reports whether an action is in a set.
func has(set, action int) bool {
	return set>>action&1 == 1
}

// canLead reports whether all actions of a set lead to states that are right.
func canLead(state api.State, set int, right func(to int) bool) bool {
	for action, to := range state.Next {
		if has(set, action) && !right(to) {
			return false
		}
	}
	return true
}

// isZero reports whether a specification is the zero value.
func isZero(s api.Spec) bool {
	return len(s.Actions) == 0 && len(s.States) == 0
}

// refused fails the test unless a result is an error without anything else.
func refused(t *testing.T, what string, s api.Spec, e, want api.Errno) {
	t.Helper()
	if e != want || !isZero(s) {
		t.Errorf("%s: %s %d, want error %d", what, show(s), e, want)
	}
}

// refines reports whether each system that satisfies s satisfies u.
func refines(s, u api.Spec) bool {
	v, e := refine.Refines(s, u)
	if e != api.OK {
		panic(e)
	}
	return v.Holds
}

// equal fails the test unless a specification has the implementations of the
// expected one.
func equal(t *testing.T, what string, got, want api.Spec) {
	t.Helper()
	if is, e := refine.Equal(got, want); !is || e != api.OK {
		t.Errorf("%s: %s, want the implementations of %s", what, show(got), show(want))
	}
}

// size returns the number of states of the least specification of s.
func size(s api.Spec) int {
	l, _, _ := least.Least(s)
	return len(l.States)
}

// satisfies reports whether m satisfies s.
func satisfies(m api.System, s api.Spec) bool {
	v, e := spec.Satisfies(m, s)
	if e != api.OK {
		panic(e)
	}
	return v.Holds
}

// multiplied returns the product of two systems that are small.
func multiplied(m, n api.System) api.System {
	p, _, e := system.Product(m, n)
	if e != api.OK {
		panic(e)
	}
	return p
}

// offersAfter returns the sets that states of m after the word offer, in order.
func offersAfter(m api.System, word []int) []int {
	states, e := system.After(m, word)
	if e != api.OK {
		panic(e)
	}
	var l []int
	for _, state := range states {
		set, _ := system.Offer(m, state)
		l = append(l, set)
	}
	slices.Sort(l)
	return slices.Compact(l)
}

// words returns all words of so many actions with a length.
func words(actions, length int) [][]int {
	if length == 0 {
		return [][]int{nil}
	}
	var l [][]int
	for _, word := range words(actions, length-1) {
		for action := range actions {
			l = append(l, append(slices.Clone(word), action))
		}
	}
	return l
}
