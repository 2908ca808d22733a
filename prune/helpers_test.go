package prune_test

import (
	"fmt"
	"math/rand/v2"
	"slices"
	"strings"
	"testing"

	"makeweight/api"
	"makeweight/spec"
	"makeweight/system"
)

const letters = "a b c d e f g h"

// of returns the specification of a string, where semicolons stand for line
// feeds.
func of(text string) api.Spec {
	s, e := spec.Parse(strings.ReplaceAll(text, ";", "\n"))
	if e != api.OK {
		panic(text)
	}
	return s
}

// build returns the specification with the names in a string and the given
// states, valid or not.
func build(names string, states ...api.State) api.Spec {
	return api.Spec{Actions: strings.Fields(names), States: states}
}

func at(accept []int, next ...int) api.State {
	return api.State{Accept: accept, Next: next}
}

func sets(l ...int) []int {
	return l
}

// clone returns a specification that shares no memory with s.
func clone(s api.Spec) api.Spec {
	c := api.Spec{Actions: slices.Clone(s.Actions)}
	for _, state := range s.States {
		c.States = append(c.States, api.State{Accept: slices.Clone(state.Accept), Next: slices.Clone(state.Next)})
	}
	return c
}

// source returns a source of numbers that are the same in each run.
func source() *rand.Rand {
	return rand.New(rand.NewPCG(20, 4))
}

// random returns a valid specification in which about one in so many actions
// leads somewhere, and one in so many sets that may be accepted are.
func random(r *rand.Rand, actions, states, oneIn int) api.Spec {
	s := api.Spec{Actions: strings.Fields(letters)[:actions]}
	for range states {
		state := api.State{}
		leading := 0
		for action := range actions {
			to := -1
			if r.IntN(oneIn) < 2 {
				to = r.IntN(states)
				leading |= 1 << action
			}
			state.Next = append(state.Next, to)
		}
		for set := range 1 << actions {
			if set&leading == set && r.IntN(oneIn) == 0 {
				state.Accept = append(state.Accept, set)
			}
		}
		s.States = append(s.States, state)
	}
	return s
}

// specs returns valid specifications of many shapes, hollow ones among them.
func specs() []api.Spec {
	l := []api.Spec{
		build("", at(nil)), build("", at(sets(0))), build("", at(nil), at(sets(0))), build("", at(sets(0)), at(nil)),
		build("a", at(nil, 0)), build("a", at(sets(1), 0)), build("a", at(sets(0), 0)),
		of("spec coin tea;0: {coin} -> coin 1;1: {} {tea} -> tea 0"), of("spec a b;0: {a} {b} -> a 1 b 0;1: ->"),
		chain(5), ring(5), of("spec a b;0: {a} {a,b} -> a 1 b 2;1: {} -> a 0 b 2;2: ->"),
	}
	r := source()
	for range 300 {
		l = append(l, random(r, r.IntN(4), 1+r.IntN(5), 2+r.IntN(4)))
	}
	for range 5 {
		l = append(l, random(r, api.MaxActions, 1+r.IntN(5), 3))
	}
	return l
}

// small returns valid specifications with at most 4 states and 2 actions.
func small() []api.Spec {
	var l []api.Spec
	r := source()
	for range 300 {
		l = append(l, random(r, r.IntN(3), 1+r.IntN(4), 2+r.IntN(3)))
	}
	return l
}

// chain returns the specification with one action in which each state must lead
// to the next one, and the last one accepts nothing.
func chain(states int) api.Spec {
	s := build("a")
	for state := range states - 1 {
		s.States = append(s.States, at(sets(1), state+1))
	}
	s.States = append(s.States, at(nil, -1))
	return s
}

// ring returns the specification with one action whose states stand in a ring,
// each of which must lead to the next one.
func ring(states int) api.Spec {
	s := build("a")
	for state := range states {
		s.States = append(s.States, at(sets(1), (state+1)%states))
	}
	return s
}

// large returns a specification with all states and actions that there may be,
// which accept everything. Actions lead to states far off.
func large() api.Spec {
	return full(letters, api.MaxStates, func(state, action int) int { return (8*state + action + 1) % api.MaxStates })
}

// full returns a specification that accepts everything.
func full(names string, states int, to func(state, action int) int) api.Spec {
	s := build(names)
	for state := range states {
		all := api.State{}
		for set := range 1 << len(s.Actions) {
			all.Accept = append(all.Accept, set)
		}
		for action := range s.Actions {
			all.Next = append(all.Next, to(state, action))
		}
		s.States = append(s.States, all)
	}
	return s
}

// badSpecs returns specifications that are not valid.
func badSpecs() map[string]api.Spec {
	return map[string]api.Spec{
		"nothing":         {},
		"no states":       build("a b"),
		"too many states": ring(api.MaxStates + 1),
		"same names":      build("a a", at(sets(0), -1, -1)),
		"nine actions":    build(letters+" i", at(nil, -1, -1, -1, -1, -1, -1, -1, -1, -1)),
		"no next":         build("a", at(nil)),
		"next too many":   build("a", at(nil, 0, 0)),
		"next below -1":   build("a", at(nil, -2)),
		"next to nothing": build("a", at(sets(0), 1)),
		"sets turned":     build("a", at(sets(1, 0), 0)),
		"negative set":    build("a", at(sets(-1), 0)),
		"other action":    build("a", at(sets(2), 0)),
		"leads nowhere":   build("a", at(sets(0), -1), at(sets(1), -1)),
	}
}

// show returns the beginning of values as text.
func show(l ...any) string {
	s := fmt.Sprint(l...)
	return s[:min(len(s), 400)]
}

// same fails the test unless a specification is the expected one.
func same(t *testing.T, what string, got, want api.Spec) {
	t.Helper()
	equal := slices.EqualFunc(got.States, want.States, func(s, t api.State) bool {
		return slices.Equal(s.Accept, t.Accept) && slices.Equal(s.Next, t.Next)
	})
	if !equal || !slices.Equal(got.Actions, want.Actions) {
		t.Errorf("%s: %s, want %s", what, show(got), show(want))
	}
}

// has reports whether an action is in a set.
func has(set, action int) bool {
	return set>>action&1 == 1
}

// satisfies reports whether m, which must be valid, satisfies s.
func satisfies(t *testing.T, m api.System, s api.Spec) bool {
	t.Helper()
	v, e := spec.Satisfies(m, s)
	if e != api.OK {
		t.Fatalf("%s and %s: error %d", show(m), show(s), e)
	}
	return v.Holds
}

// offersAfter reports whether some state of m after the word offers the set.
func offersAfter(m api.System, word []int, set int) bool {
	states, _ := system.After(m, word)
	return slices.ContainsFunc(states, func(state int) bool {
		offered, _ := system.Offer(m, state)
		return offered == set
	})
}

// hollowOf returns for each state of s whether it is hollow, by the definition.
func hollowOf(s api.Spec) []bool {
	hollow := make([]bool, len(s.States))
	for changed := true; changed; {
		changed = false
		for number, state := range s.States {
			if !hollow[number] && !slices.ContainsFunc(state.Accept, func(set int) bool { return canLead(state, set, hollow) }) {
				hollow[number], changed = true, true
			}
		}
	}
	return hollow
}

// canLead reports whether no action of a set of a state leads to a hollow one.
func canLead(state api.State, set int, hollow []bool) bool {
	for action := range state.Next {
		if has(set, action) && hollow[state.Next[action]] {
			return false
		}
	}
	return true
}

// numbers returns those numbers that are marked.
func numbers(marked []bool) []int {
	var l []int
	for number, is := range marked {
		if is {
			l = append(l, number)
		}
	}
	return l
}

// words yields all words of so many actions, in lexicographic order.
func words(actions, length int) [][]int {
	if length == 0 {
		return [][]int{{}}
	}
	var l [][]int
	for action := range actions {
		for _, rest := range words(actions, length-1) {
			l = append(l, append([]int{action}, rest...))
		}
	}
	return l
}

// offers returns the sets that systems that satisfy s offer in states after the
// word, by the definition of a hollow state.
func offers(s api.Spec, word []int) []int {
	hollow := hollowOf(s)
	if hollow[0] {
		return nil
	}
	state := s.States[0]
	for _, action := range word {
		if !slices.ContainsFunc(state.Accept, func(set int) bool { return has(set, action) && canLead(state, set, hollow) }) {
			return nil
		}
		state = s.States[state.Next[action]]
	}
	return slices.DeleteFunc(slices.Clone(state.Accept), func(set int) bool { return !canLead(state, set, hollow) })
}

// near returns a system most of whose states do what the states of s allow, and
// that may have several edges with an action.
func near(r *rand.Rand, s api.Spec) api.System {
	const copies = 3
	hollow := hollowOf(s)
	m := api.System{Actions: slices.Clone(s.Actions)}
	for number := range copies * len(s.States) {
		state := s.States[number/copies]
		accept := state.Accept
		if r.IntN(20) > 0 {
			accept = slices.DeleteFunc(slices.Clone(accept), func(set int) bool { return !canLead(state, set, hollow) })
		}
		set := 0
		if len(accept) > 0 {
			set = accept[r.IntN(len(accept))]
		}
		var edges []api.Edge
		for action, to := range state.Next {
			if !has(set, action) {
				continue
			}
			first := r.IntN(copies)
			for i := range copies {
				if i == first || r.IntN(3) == 0 {
					edges = append(edges, api.Edge{Action: action, To: copies*to + i})
				}
			}
		}
		m.States = append(m.States, edges)
	}
	return m
}
