package meet_test

import (
	"fmt"
	"math/rand/v2"
	"slices"
	"strings"
	"testing"

	"makeweight/api"
	"makeweight/refine"
	"makeweight/spec"
	"makeweight/system"
)

const (
	letters = "a b c d e f g h"
	may     = "spec coin tea;0: {coin} -> coin 1;1: {} {tea} -> tea 0"
	always  = "spec coin tea;0: {coin} -> coin 1;1: {tea} -> tea 0"
)

// of returns the specification of a string, where semicolons stand for line
// feeds.
func of(text string) api.Spec {
	s, e := spec.Parse(strings.ReplaceAll(text, ";", "\n"))
	if e != api.OK {
		panic(text)
	}
	return s
}

// names returns the first ones of some names of actions.
func names(actions int) []string {
	return strings.Fields(letters)[:actions]
}

// build returns the specification with the names in a string and the given
// states, valid or not.
func build(names string, states ...api.State) api.Spec {
	return api.Spec{Actions: strings.Fields(names), States: states}
}

func at(accept []int, next ...int) api.State {
	return api.State{Accept: accept, Next: next}
}

func sets(l ...int) []int {
	return l
}

func all(names string) api.Spec {
	s, _ := spec.All(strings.Fields(names))
	return s
}

func none(names string) api.Spec {
	s, _ := spec.None(strings.Fields(names))
	return s
}

// clone returns a specification that shares no memory with s.
func clone(s api.Spec) api.Spec {
	c := api.Spec{Actions: slices.Clone(s.Actions)}
	for _, state := range s.States {
		c.States = append(c.States, at(slices.Clone(state.Accept), slices.Clone(state.Next)...))
	}
	return c
}

// show returns the beginning of values as text.
func show(l ...any) string {
	s := fmt.Sprint(l...)
	return s[:min(len(s), 400)]
}

// source returns a source of numbers that are the same in each run.
func source() *rand.Rand {
	return rand.New(rand.NewPCG(20, 7))
}

// random returns a valid specification in which about one in so many actions
// leads nowhere, and one in so many sets is not accepted.
func random(r *rand.Rand, actions, states, oneIn int) api.Spec {
	s := api.Spec{Actions: names(actions)}
	for range states {
		state := api.State{}
		for range actions {
			to := r.IntN(states)
			if r.IntN(oneIn) == 0 {
				to = -1
			}
			state.Next = append(state.Next, to)
		}
		for set := range 1 << actions {
			if canLead(state, set, func(to int) bool { return to >= 0 }) && r.IntN(oneIn) > 0 {
				state.Accept = append(state.Accept, set)
			}
		}
		s.States = append(s.States, state)
	}
	return s
}

// near returns a specification that differs from s in some sets and actions.
func near(r *rand.Rand, s api.Spec) api.Spec {
	n := clone(s)
	for number := range n.States {
		state := &n.States[number]
		for action := range state.Next {
			if state.Next[action] >= 0 && r.IntN(6) == 0 {
				state.Next[action] = r.IntN(len(n.States))
			}
		}
		for set := range 1 << len(n.Actions) {
			place, found := slices.BinarySearch(state.Accept, set)
			switch {
			case r.IntN(4) > 0:
			case found:
				state.Accept = slices.Delete(state.Accept, place, place+1)
			case canLead(*state, set, func(to int) bool { return to >= 0 }):
				state.Accept = slices.Insert(state.Accept, place, set)
			}
		}
	}
	return n
}

// couples returns pairs of valid specifications with the same actions, of many
// shapes: with hollow states, with states that are not reached, and those that
// are close to each other, far from each other, or the same.
func couples() [][2]api.Spec {
	var l [][2]api.Spec
	for _, c := range [][2]string{
		{may, always}, {"spec;0: {} ->", "spec;0: ->"}, {"spec a;0: {} -> a 0", "spec a;0: {a} -> a 0"},
		// What both allow leads to what they do not.
		{"spec a;0: {a} -> a 1;1: {} ->", "spec a;0: {a} -> a 0"}, {"spec a b;0: {a} {b} -> a 1 b 0;1: {a} -> a 0", "spec a b;0: {a} {a,b} -> a 1 b 0;1: {b} -> b 0"},
		// Hollow states, and states that are not reached.
		{"spec a b;0: {a} {b} -> a 1 b 0;1: ->", "spec a b;0: {a} {b} -> a 0 b 1;1: ->"}, {"spec a b;0: {a} {b} -> a 1 b 0;1: {} ->;2: {b} -> b 0", "spec a b;0: {a} {b} {a,b} -> a 3 b 0;1: {} ->;2: ->;3: {} -> b 2"},
		// Actions that are in no set, but lead on.
		{"spec a b;0: {b} -> a 0 b 0", "spec a b;0: {a} -> a 0 b 0"}, {"spec a b;0: {a} -> a 1 b 1;1: {} -> a 0", "spec a b;0: {a} {b} -> a 1 b 1;1: {b} -> a 0 b 0"},
	} {
		l = append(l, [2]api.Spec{of(c[0]), of(c[1])})
	}
	r := source()
	for range 250 {
		actions := r.IntN(4)
		s := random(r, actions, 1+r.IntN(5), 2+r.IntN(5))
		t := random(r, actions, 1+r.IntN(5), 2+r.IntN(5))
		n := near(r, s)
		l = append(l, [2]api.Spec{s, t}, [2]api.Spec{s, n}, [2]api.Spec{n, near(r, n)}, [2]api.Spec{t, t})
	}
	for _, names := range []string{"", "a", "a b", letters} {
		s := random(r, len(strings.Fields(names)), 3, 4)
		for _, t := range []api.Spec{s, all(names), none(names)} {
			l = append(l, [2]api.Spec{t, all(names)}, [2]api.Spec{t, none(names)}, [2]api.Spec{none(names), t}, [2]api.Spec{all(names), t})
		}
	}
	return l
}

// ring returns the specification with one action whose states stand in a ring,
// each of which must lead to the next one.
func ring(states int) api.Spec {
	s := build("a")
	for state := range states {
		s.States = append(s.States, at(sets(1), (state+1)%states))
	}
	return s
}

// notched returns a ring in which state 0 may also stop.
func notched(states int) api.Spec {
	s := ring(states)
	s.States[0].Accept = sets(0, 1)
	return s
}

// full returns a specification that accepts everything.
func full(names string, states int, to func(state, action int) int) api.Spec {
	s := build(names)
	for state := range states {
		whole := api.State{}
		for set := range 1 << len(s.Actions) {
			whole.Accept = append(whole.Accept, set)
		}
		for action := range s.Actions {
			whole.Next = append(whole.Next, to(state, action))
		}
		s.States = append(s.States, whole)
	}
	return s
}

// badSpecs returns specifications that are not valid.
func badSpecs() map[string]api.Spec {
	return map[string]api.Spec{
		"nothing":         {},
		"no states":       build("a b"),
		"too many states": ring(api.MaxStates + 1),
		"same names":      build("a a", at(sets(0), -1, -1)),
		"nine actions":    build(letters+" i", at(nil, -1, -1, -1, -1, -1, -1, -1, -1, -1)),
		"no next":         build("a", at(nil)),
		"next too many":   build("a", at(nil, 0, 0)),
		"next below -1":   build("a", at(nil, -2)),
		"next to nothing": build("a", at(sets(0), 1)),
		"sets turned":     build("a", at(sets(1, 0), 0)),
		"set twice":       build("a", at(sets(1, 1), 0)),
		"negative set":    build("a", at(sets(-1), 0)),
		"other action":    build("a", at(sets(2), 0)),
		"leads nowhere":   build("a", at(sets(0), -1), at(sets(1), -1)),
	}
}

// badActions returns lists that are not of actions.
func badActions() map[string][]string {
	return map[string][]string{
		"empty name": {""}, "twice": {"a", "a"}, "nine": strings.Fields(letters + " i"), "digit": {"1a"}, "blank": {"a b"}, "long": {strings.Repeat("x", api.MaxName+1)},
	}
}

// has reports whether an action is in a set.
func has(set, action int) bool {
	return set>>action&1 == 1
}

// canLead reports whether all actions of a set lead to states that are right.
func canLead(state api.State, set int, right func(to int) bool) bool {
	for action, to := range state.Next {
		if has(set, action) && !right(to) {
			return false
		}
	}
	return true
}

// isZero reports whether a specification is the zero value.
func isZero(s api.Spec) bool {
	return len(s.Actions) == 0 && len(s.States) == 0
}

// words returns all words of so many actions with a length.
func words(actions, length int) [][]int {
	if length == 0 {
		return [][]int{nil}
	}
	var l [][]int
	for _, word := range words(actions, length-1) {
		for action := range actions {
			l = append(l, append(slices.Clone(word), action))
		}
	}
	return l
}

// refused fails the test unless a result is an error without anything else.
func refused(t *testing.T, what string, s api.Spec, e, want api.Errno) {
	t.Helper()
	if e != want || !isZero(s) {
		t.Errorf("%s: %s %d, want error %d", what, show(s), e, want)
	}
}

// refines reports whether each system that satisfies s satisfies u.
func refines(s, u api.Spec) bool {
	v, e := refine.Refines(s, u)
	if e != api.OK {
		panic(e)
	}
	return v.Holds
}

// equal fails the test unless a specification has the implementations of the
// expected one.
func equal(t *testing.T, what string, got, want api.Spec) {
	t.Helper()
	if is, e := refine.Equal(got, want); !is || e != api.OK {
		t.Errorf("%s: %s, want the implementations of %s", what, show(got), show(want))
	}
}

// satisfies reports whether m satisfies s.
func satisfies(m api.System, s api.Spec) bool {
	v, e := spec.Satisfies(m, s)
	if e != api.OK {
		panic(e)
	}
	return v.Holds
}

// systemOf returns the system of a string, where semicolons stand for line
// feeds.
func systemOf(text string) api.System {
	m, e := system.Parse(strings.ReplaceAll(text, ";", "\n"))
	if e != api.OK {
		panic(text)
	}
	return m
}

// systems returns all systems with one action and three states, or with two
// actions and two states.
func systems(actions []string) []api.System {
	states := 4 - len(actions)
	var edges []api.Edge
	for action := range actions {
		for to := range states {
			edges = append(edges, api.Edge{Action: action, To: to})
		}
	}
	var l []api.System
	for bits := range 1 << (len(edges) * states) {
		m := api.System{Actions: actions}
		for state := range states {
			own := slices.Clone(edges)
			for i := len(edges) - 1; i >= 0; i-- {
				if !has(bits, state*len(edges)+i) {
					own = slices.Delete(own, i, i+1)
				}
			}
			m.States = append(m.States, own)
		}
		l = append(l, m)
	}
	return l
}

// small returns all valid specifications with one action and two states.
func small() []api.Spec {
	var states []api.State
	for next := range 3 {
		for accept := range 4 {
			state := at(nil, next-1)
			for set := range 2 {
				if has(accept, set) {
					state.Accept = append(state.Accept, set)
				}
			}
			if next > 0 || !has(accept, 1) {
				states = append(states, state)
			}
		}
	}
	var l []api.Spec
	for _, first := range states {
		for _, second := range states {
			l = append(l, clone(build("a", first, second)))
		}
	}
	return l
}
