package refine_test

import (
	"fmt"
	"math/rand/v2"
	"slices"
	"strings"
	"testing"

	"makeweight/api"
	"makeweight/refine"
	"makeweight/spec"
	"makeweight/system"
)

const letters = "a b c d e f g h"

// of returns the specification of a string, where semicolons stand for line
// feeds.
func of(text string) api.Spec {
	s, e := spec.Parse(strings.ReplaceAll(text, ";", "\n"))
	if e != api.OK {
		panic(text)
	}
	return s
}

// run returns the system of a string, in the same way.
func run(text string) api.System {
	m, e := system.Parse(strings.ReplaceAll(text, ";", "\n"))
	if e != api.OK {
		panic(text)
	}
	return m
}

// build returns the specification with the names in a string and the given
// states, valid or not.
func build(names string, states ...api.State) api.Spec {
	return api.Spec{Actions: strings.Fields(names), States: states}
}

func at(accept []int, next ...int) api.State {
	return api.State{Accept: accept, Next: next}
}

func sets(l ...int) []int {
	return l
}

func pairs(l ...[2]int) [][2]int {
	return l
}

// clone returns a specification that shares no memory with s.
func clone(s api.Spec) api.Spec {
	c := api.Spec{Actions: slices.Clone(s.Actions)}
	for _, state := range s.States {
		c.States = append(c.States, api.State{Accept: slices.Clone(state.Accept), Next: slices.Clone(state.Next)})
	}
	return c
}

// show returns the beginning of values as text.
func show(l ...any) string {
	s := fmt.Sprint(l...)
	return s[:min(len(s), 400)]
}

// source returns a source of numbers that are the same in each run.
func source() *rand.Rand {
	return rand.New(rand.NewPCG(20, 5))
}

// random returns a valid specification in which about one in so many actions
// leads nowhere, and one in so many sets is not accepted.
func random(r *rand.Rand, actions, states, oneIn int) api.Spec {
	s := api.Spec{Actions: strings.Fields(letters)[:actions]}
	for range states {
		state := api.State{}
		for range actions {
			to := r.IntN(states)
			if r.IntN(oneIn) == 0 {
				to = -1
			}
			state.Next = append(state.Next, to)
		}
		for set := range 1 << actions {
			if canLead(state, set, func(to int) bool { return to >= 0 }) && r.IntN(oneIn) > 0 {
				state.Accept = append(state.Accept, set)
			}
		}
		s.States = append(s.States, state)
	}
	return s
}

// within returns a specification whose states are copies of those of t that
// accept a part of what these accept, and that often refines t. About one in so
// many sets is not accepted.
func within(r *rand.Rand, t api.Spec, states, oneIn int) api.Spec {
	origin := []int{0}
	for len(origin) < states {
		origin = append(origin, r.IntN(len(t.States)))
	}
	s := api.Spec{Actions: slices.Clone(t.Actions)}
	for _, number := range origin {
		state := api.State{}
		for _, to := range t.States[number].Next {
			state.Next = append(state.Next, some(r, origin, to))
		}
		for _, set := range t.States[number].Accept {
			if canLead(state, set, func(to int) bool { return to >= 0 }) && r.IntN(oneIn) > 0 {
				state.Accept = append(state.Accept, set)
			}
		}
		s.States = append(s.States, state)
	}
	return s
}

// some returns the place of some number x in a list, or -1 if it is not there.
func some(r *rand.Rand, l []int, x int) int {
	var places []int
	for place, number := range l {
		if number == x {
			places = append(places, place)
		}
	}
	if places == nil {
		return -1
	}
	return places[r.IntN(len(places))]
}

// couple is two specifications with the same actions.
type couple struct {
	s, t api.Spec
}

// couples returns couples of many shapes: some refine each other, some do not,
// and states of both may be hollow.
func couples() []couple {
	l := []couple{
		{of("spec coin tea;0: {coin} -> coin 1;1: {tea} -> tea 0"), of("spec coin tea;0: {coin} -> coin 1;1: {} {tea} -> tea 0")},
		{of("spec a b;0: {a} {b} -> a 1 b 0;1: ->"), of("spec a b;0: {b} -> b 0")},
		{of("spec;0: ->"), of("spec;0: {} ->")},
	}
	r := source()
	for range 300 {
		actions := r.IntN(4)
		t := random(r, actions, 1+r.IntN(4), 2+r.IntN(8))
		s := within(r, t, 1+r.IntN(5), 2+r.IntN(6))
		u := random(r, actions, 1+r.IntN(4), 2+r.IntN(30))
		l = append(l, couple{s, t}, couple{t, s}, couple{s, u}, couple{t, t}, couple{loosened(r, s), t})
		l = append(l, couple{random(r, 1+actions/2, 2+r.IntN(5), 20), random(r, 1+actions/2, 2+r.IntN(5), 12)})
		// These differ only after several steps.
		l = append(l, couple{random(r, 1, 6, 60), random(r, 1, 6, 15)}, couple{random(r, 2, 6, 500), random(r, 2, 6, 40)})
	}
	return l
}

// loosened returns s with one more set in one state, if there is one that may be
// added.
func loosened(r *rand.Rand, s api.Spec) api.Spec {
	c := clone(s)
	state := &c.States[r.IntN(len(c.States))]
	set := r.IntN(1 << len(c.Actions))
	place, found := slices.BinarySearch(state.Accept, set)
	if !found && canLead(*state, set, func(to int) bool { return to >= 0 }) {
		state.Accept = slices.Insert(state.Accept, place, set)
	}
	return c
}

// has reports whether an action is in a set.
func has(set, action int) bool {
	return set>>action&1 == 1
}

// canLead reports whether all actions of a set lead to states that are right.
func canLead(state api.State, set int, right func(to int) bool) bool {
	for action, to := range state.Next {
		if has(set, action) && !right(to) {
			return false
		}
	}
	return true
}

// hollowOf returns for each state of s whether it is hollow, by the definition.
func hollowOf(s api.Spec) []bool {
	hollow := make([]bool, len(s.States))
	for changed := true; changed; {
		changed = false
		for number := range s.States {
			if !hollow[number] && len(keeping(s, number, hollow)) == 0 {
				hollow[number], changed = true, true
			}
		}
	}
	return hollow
}

// keeping returns the sets of a state none of whose actions lead to marked ones.
func keeping(s api.Spec, number int, marked []bool) []int {
	state := s.States[number]
	return slices.DeleteFunc(slices.Clone(state.Accept), func(set int) bool {
		return !canLead(state, set, func(to int) bool { return !marked[to] })
	})
}

// freest returns, for each set that a system that satisfies s may offer first,
// a system that satisfies s and offers it, and that has after each word that is
// possible then for each set that is possible there a state that offers it. It
// has a state for each state and each set.
func freest(s api.Spec) []api.System {
	hollow := hollowOf(s)
	if hollow[0] {
		return nil
	}
	var l []api.System
	for first := range keeping(s, 0, hollow) {
		l = append(l, freestFrom(s, hollow, first))
	}
	return l
}

// freestFrom returns the one of them whose state 0 offers the first set but so
// many.
func freestFrom(s api.Spec, hollow []bool, first int) api.System {
	type node struct{ number, set int }
	nodes := []node{{0, keeping(s, 0, hollow)[first]}}
	for number := range s.States {
		if hollow[number] {
			continue
		}
		for _, set := range keeping(s, number, hollow) {
			if (node{number, set}) != nodes[0] {
				nodes = append(nodes, node{number, set})
			}
		}
	}
	m := api.System{Actions: s.Actions}
	for _, n := range nodes {
		var edges []api.Edge
		for action, to := range s.States[n.number].Next {
			for place, next := range nodes {
				if has(n.set, action) && next.number == to {
					edges = append(edges, api.Edge{Action: action, To: place})
				}
			}
		}
		m.States = append(m.States, edges)
	}
	return m
}

// depthOf returns the length of a shortest fault for t of systems that satisfy
// s, and true; false if s refines t.
func depthOf(t *testing.T, s, u api.Spec) (int, bool) {
	t.Helper()
	depth, fails := 0, false
	for _, m := range freest(s) {
		if !satisfies(t, m, s) {
			t.Fatalf("%s does not satisfy %s", show(m), show(s))
		}
		v, _ := spec.Satisfies(m, u)
		if !v.Holds && (!fails || len(v.Word) < depth) {
			depth, fails = len(v.Word), true
		}
	}
	return depth, fails
}

// satisfies reports whether m, which must be valid, satisfies s.
func satisfies(t *testing.T, m api.System, s api.Spec) bool {
	t.Helper()
	v, e := spec.Satisfies(m, s)
	if e != api.OK {
		t.Fatalf("%s and %s: error %d", show(m), show(s), e)
	}
	return v.Holds
}

// isZero reports whether m is the zero value.
func isZero(m api.System) bool {
	return len(m.Actions) == 0 && len(m.States) == 0
}

// proves fails the test unless IsProof answers as expected.
func proves(t *testing.T, why string, c couple, p refine.Proof, want bool) {
	t.Helper()
	if is, e := refine.IsProof(c.s, c.t, p); is != want || e != api.OK {
		t.Errorf("%s: IsProof(%s, %s) = %v %d, want %v", why, show(c), show(p), is, e, want)
	}
}

// right fails the test unless Right answers as expected.
func right(t *testing.T, why string, c couple, v refine.Verdict, want bool) {
	t.Helper()
	if is, e := refine.Right(c.s, c.t, v); is != want || e != api.OK {
		t.Errorf("%s: Right(%s, %s) = %v %d, want %v", why, show(c), show(v), is, e, want)
	}
}

// checkVerdict fails the test unless Refines, Right, Depth and IsProof say
// whether s refines t as expected, and how deep it fails.
func checkVerdict(t *testing.T, c couple, depth int, fails bool) refine.Verdict {
	t.Helper()
	what := show(c.s, " and ", c.t)
	v, e := refine.Refines(c.s, c.t)
	if e != api.OK || v.Holds == fails {
		t.Errorf("%s: Refines = %s %d, want %v", what, show(v), e, !fails)
	}
	if fails {
		checkWitness(t, c, v)
	} else {
		checkProof(t, c, v)
	}
	right(t, "its verdict", c, v, true)
	if n, is, e := refine.Depth(c.s, c.t); n != depth || is != fails || e != api.OK {
		t.Errorf("%s: Depth = %d %v %d, want %d %v", what, n, is, e, depth, fails)
	}
	return v
}

func checkWitness(t *testing.T, c couple, v refine.Verdict) {
	t.Helper()
	if system.Check(v.Witness) != api.OK || !slices.Equal(v.Witness.Actions, c.s.Actions) {
		t.Errorf("%s: the witness %s is not one", show(c), show(v.Witness))
	} else if !satisfies(t, v.Witness, c.s) || satisfies(t, v.Witness, c.t) {
		t.Errorf("%s: the witness %s does not show it", show(c), show(v.Witness))
	}
	if len(v.Proof.Ladder) > 0 || len(v.Proof.Pairs) > 0 {
		t.Errorf("%s: the witness has a proof %s beside it", show(c), show(v.Proof))
	}
}

func checkProof(t *testing.T, c couple, v refine.Verdict) {
	t.Helper()
	if !isProof(c.s, c.t, v.Proof) || !isZero(v.Witness) {
		t.Errorf("%s: %s is not a proof alone", show(c), show(v))
	}
	proves(t, "its verdict", c, v.Proof, true)
}

// isLadder reports whether l is a ladder of s, by the definition.
func isLadder(s api.Spec, l []int) bool {
	earlier := make([]bool, len(s.States))
	for _, number := range l {
		if number < 0 || number >= len(s.States) || earlier[number] || len(keeping(s, number, earlier)) > 0 {
			return false
		}
		earlier[number] = true
	}
	return true
}

// isProof reports whether p is a proof that s refines t, by the definition.
func isProof(s, t api.Spec, p refine.Proof) bool {
	if !isLadder(s, p.Ladder) {
		return false
	}
	if slices.Contains(p.Ladder, 0) {
		return len(p.Pairs) == 0
	}
	among := map[[2]int]bool{}
	for _, pair := range p.Pairs {
		among[pair] = true
	}
	marked := make([]bool, len(s.States))
	for _, number := range p.Ladder {
		marked[number] = true
	}
	for pair := range among {
		if pair[0] < 0 || pair[0] >= len(s.States) || pair[1] < 0 || pair[1] >= len(t.States) || marked[pair[0]] {
			return false
		}
		from, to := s.States[pair[0]], t.States[pair[1]]
		for _, set := range keeping(s, pair[0], marked) {
			if !slices.Contains(to.Accept, set) {
				return false
			}
			for action := range s.Actions {
				if has(set, action) && !among[[2]int{from.Next[action], to.Next[action]}] {
					return false
				}
			}
		}
	}
	return among[[2]int{0, 0}]
}

// ring returns the specification with one action whose states stand in a ring,
// each of which must lead to the next one.
func ring(states int) api.Spec {
	s := build("a")
	for state := range states {
		s.States = append(s.States, at(sets(1), (state+1)%states))
	}
	return s
}

// chain returns the specification with one action in which each state must lead
// to the next one, and the last one accepts nothing.
func chain(states int) api.Spec {
	s := ring(states)
	s.States[states-1] = at(nil, -1)
	return s
}

// full returns a specification that accepts everything.
func full(names string, states int, to func(state, action int) int) api.Spec {
	s := build(names)
	for state := range states {
		all := api.State{}
		for set := range 1 << len(s.Actions) {
			all.Accept = append(all.Accept, set)
		}
		for action := range s.Actions {
			all.Next = append(all.Next, to(state, action))
		}
		s.States = append(s.States, all)
	}
	return s
}

// badSpecs returns specifications that are not valid.
func badSpecs() map[string]api.Spec {
	return map[string]api.Spec{
		"nothing":         {},
		"no states":       build("a b"),
		"too many states": ring(api.MaxStates + 1),
		"same names":      build("a a", at(sets(0), -1, -1)),
		"nine actions":    build(letters+" i", at(nil, -1, -1, -1, -1, -1, -1, -1, -1, -1)),
		"no next":         build("a", at(nil)),
		"next too many":   build("a", at(nil, 0, 0)),
		"next below -1":   build("a", at(nil, -2)),
		"next to nothing": build("a", at(sets(0), 1)),
		"sets turned":     build("a", at(sets(1, 0), 0)),
		"negative set":    build("a", at(sets(-1), 0)),
		"other action":    build("a", at(sets(2), 0)),
		"leads nowhere":   build("a", at(sets(0), -1), at(sets(1), -1)),
	}
}
