package least_test

import (
	"fmt"
	"math/rand/v2"
	"slices"
	"strings"
	"testing"

	"makeweight/api"
	"makeweight/spec"
)

const letters = "a b c d e f g h"

// of returns the specification of a string, where semicolons stand for line
// feeds.
func of(text string) api.Spec {
	s, e := spec.Parse(strings.ReplaceAll(text, ";", "\n"))
	if e != api.OK {
		panic(text)
	}
	return s
}

// build returns the specification with the names in a string and the given
// states, valid or not.
func build(names string, states ...api.State) api.Spec {
	return api.Spec{Actions: strings.Fields(names), States: states}
}

func at(accept []int, next ...int) api.State {
	return api.State{Accept: accept, Next: next}
}

func sets(l ...int) []int {
	return l
}

func all(names string) api.Spec {
	s, _ := spec.All(strings.Fields(names))
	return s
}

func none(names string) api.Spec {
	s, _ := spec.None(strings.Fields(names))
	return s
}

// clone returns a specification that shares no memory with s.
func clone(s api.Spec) api.Spec {
	c := api.Spec{Actions: slices.Clone(s.Actions)}
	for _, state := range s.States {
		c.States = append(c.States, at(slices.Clone(state.Accept), slices.Clone(state.Next)...))
	}
	return c
}

// show returns the beginning of values as text.
func show(l ...any) string {
	s := fmt.Sprint(l...)
	return s[:min(len(s), 400)]
}

// source returns a source of numbers that are the same in each run.
func source() *rand.Rand {
	return rand.New(rand.NewPCG(20, 6))
}

// random returns a valid specification in which about one in so many actions
// leads nowhere, and one in so many sets is not accepted.
func random(r *rand.Rand, actions, states, oneIn int) api.Spec {
	s := build(strings.Join(strings.Fields(letters)[:actions], " "))
	for range states {
		state := api.State{}
		for range actions {
			to := r.IntN(states)
			if r.IntN(oneIn) == 0 {
				to = -1
			}
			state.Next = append(state.Next, to)
		}
		for set := range 1 << actions {
			if canLead(state, set, func(to int) bool { return to >= 0 }) && r.IntN(oneIn) > 0 {
				state.Accept = append(state.Accept, set)
			}
		}
		s.States = append(s.States, state)
	}
	return s
}

// sparse returns a valid specification whose states accept only one or two of a
// few sets, so that many of them accept the same.
func sparse(r *rand.Rand, actions, states int) api.Spec {
	s := build(strings.Join(strings.Fields(letters)[:actions], " "))
	for range states {
		state := api.State{Accept: sets(r.IntN(1 << actions))}
		if full := 1<<actions - 1; r.IntN(2) == 0 && state.Accept[0] < full {
			state.Accept = append(state.Accept, full)
		}
		for range actions {
			state.Next = append(state.Next, r.IntN(states))
		}
		s.States = append(s.States, state)
	}
	return s
}

// blown returns a specification with the same implementations, and for each of
// its states that of s of which it is a copy. Several states are copies of one,
// in any order, and actions lead to any copy.
func blown(r *rand.Rand, s api.Spec, states int) (api.Spec, []int) {
	origin := r.Perm(len(s.States))
	for len(origin) < states {
		origin = append(origin, r.IntN(len(s.States)))
	}
	r.Shuffle(len(origin), func(i, j int) { origin[i], origin[j] = origin[j], origin[i] })
	first := slices.Index(origin, 0)
	origin[0], origin[first] = origin[first], origin[0]
	b := api.Spec{Actions: slices.Clone(s.Actions)}
	for _, number := range origin {
		state := at(slices.Clone(s.States[number].Accept))
		for _, to := range s.States[number].Next {
			state.Next = append(state.Next, some(r, origin, to))
		}
		b.States = append(b.States, state)
	}
	return b, origin
}

// some returns the place of some number x in a list, or -1 if it is not there.
func some(r *rand.Rand, l []int, x int) int {
	var places []int
	for place, number := range l {
		if number == x {
			places = append(places, place)
		}
	}
	if places == nil {
		return -1
	}
	return places[r.IntN(len(places))]
}

// rewritten returns a specification whose states have the same implementations
// as those of s, with one more, which is hollow: there are more sets, with
// actions to this one, and more actions, that are in no set.
func rewritten(r *rand.Rand, s api.Spec) api.Spec {
	w := clone(s)
	hollow := len(s.States)
	for number := range w.States {
		state := &w.States[number]
		for action, to := range state.Next {
			if to == -1 && r.IntN(3) > 0 {
				state.Next[action] = []int{hollow, r.IntN(hollow + 1)}[r.IntN(2)]
			}
		}
		for set := range 1 << len(s.Actions) {
			leads := canLead(*state, set, func(to int) bool { return to >= 0 })
			lost := !canLead(*state, set, func(to int) bool { return to != hollow })
			place, found := slices.BinarySearch(state.Accept, set)
			if leads && lost && !found && r.IntN(2) == 0 {
				state.Accept = slices.Insert(state.Accept, place, set)
			}
		}
	}
	w.States = append(w.States, at(nil, slices.Repeat([]int{r.IntN(hollow+1) - 1}, len(s.Actions))...))
	return w
}

// specs returns valid specifications of many shapes, in many of which several
// states have the same implementations, or are hollow, or not reached.
func specs() []api.Spec {
	l := []api.Spec{
		none(""), all(""), none("a b"), all("a b"), build("", at(sets(0)), at(nil)), build("", at(nil), at(sets(0)), at(sets(0))),
		of(may), of(always), of("spec a b;0: {a} {b} -> a 1 b 0;1: ->"), ring(5), chain(5), notched(5, 4),
		of("spec a b;0: {a} {a,b} -> a 1 b 2;1: {} -> a 0 b 2;2: ->"), of("spec a b;0: {a} -> a 1 b 2;1: {a} -> a 0;2: {b} -> b 0"),
	}
	r := source()
	for range 200 {
		s := random(r, r.IntN(4), 1+r.IntN(6), 2+r.IntN(5))
		b, _ := blown(r, s, len(s.States)+r.IntN(6))
		few := sparse(r, 1+r.IntN(2), 1+r.IntN(6))
		c, _ := blown(r, few, len(few.States)+2+r.IntN(4))
		l = append(l, s, b, few, rewritten(r, b), rewritten(r, c))
	}
	for range 5 {
		l = append(l, sparse(r, api.MaxActions, 1+r.IntN(6)))
	}
	return l
}

// ring returns the specification with one action whose states stand in a ring,
// each of which must lead to the next one.
func ring(states int) api.Spec {
	s := build("a")
	for state := range states {
		s.States = append(s.States, at(sets(1), (state+1)%states))
	}
	return s
}

// notched returns a ring of which one state may also stop.
func notched(states, state int) api.Spec {
	s := ring(states)
	s.States[state].Accept = sets(0, 1)
	return s
}

// chain returns the specification with one action in which each state must lead
// to the next one, and the last one accepts nothing.
func chain(states int) api.Spec {
	s := ring(states)
	s.States[states-1] = at(nil, -1)
	return s
}

// full returns a specification that accepts everything.
func full(names string, states int, to func(state, action int) int) api.Spec {
	s := build(names)
	for state := range states {
		whole := api.State{}
		for set := range 1 << len(s.Actions) {
			whole.Accept = append(whole.Accept, set)
		}
		for action := range s.Actions {
			whole.Next = append(whole.Next, to(state, action))
		}
		s.States = append(s.States, whole)
	}
	return s
}

// badSpecs returns specifications that are not valid.
func badSpecs() map[string]api.Spec {
	return map[string]api.Spec{
		"nothing":         {},
		"no states":       build("a b"),
		"too many states": ring(api.MaxStates + 1),
		"same names":      build("a a", at(sets(0), -1, -1)),
		"nine actions":    build(letters+" i", at(nil, -1, -1, -1, -1, -1, -1, -1, -1, -1)),
		"no next":         build("a", at(nil)),
		"next too many":   build("a", at(nil, 0, 0)),
		"next below -1":   build("a", at(nil, -2)),
		"next to nothing": build("a", at(sets(0), 1)),
		"sets turned":     build("a", at(sets(1, 0), 0)),
		"negative set":    build("a", at(sets(-1), 0)),
		"other action":    build("a", at(sets(2), 0)),
		"leads nowhere":   build("a", at(sets(0), -1), at(sets(1), -1)),
	}
}

// same fails the test unless a specification is the expected one.
func same(t *testing.T, what string, got, want api.Spec) {
	t.Helper()
	equal := slices.EqualFunc(got.States, want.States, func(s, t api.State) bool {
		return slices.Equal(s.Accept, t.Accept) && slices.Equal(s.Next, t.Next)
	})
	if !equal || !slices.Equal(got.Actions, want.Actions) {
		t.Errorf("%s: %s, want %s", what, show(got), show(want))
	}
}

// has reports whether an action is in a set.
func has(set, action int) bool {
	return set>>action&1 == 1
}

// canLead reports whether all actions of a set lead to states that are right.
func canLead(state api.State, set int, right func(to int) bool) bool {
	for action, to := range state.Next {
		if has(set, action) && !right(to) {
			return false
		}
	}
	return true
}

// hollowOf returns for each state of s whether it is hollow, by the definition.
func hollowOf(s api.Spec) []bool {
	hollow := make([]bool, len(s.States))
	for changed := true; changed; {
		changed = false
		for number, state := range s.States {
			if !hollow[number] && len(offered(state, hollow)) == 0 {
				hollow[number], changed = true, true
			}
		}
	}
	return hollow
}

// offered returns the sets of a state none of whose actions lead to hollow ones.
func offered(state api.State, hollow []bool) []int {
	return slices.DeleteFunc(slices.Clone(state.Accept), func(set int) bool {
		return !canLead(state, set, func(to int) bool { return !hollow[to] })
	})
}

// follow returns where the actions lead that are in one of the sets that a state
// offers, and -1 for the other ones.
func follow(state api.State, hollow []bool) []int {
	next := slices.Clone(state.Next)
	for action := range next {
		if !slices.ContainsFunc(offered(state, hollow), func(set int) bool { return has(set, action) }) {
			next[action] = -1
		}
	}
	return next
}

// pair is two states of a specification.
type pair [2]int

// alike returns the pairs of states with the same implementations: those that
// differ are taken out of all pairs until none does.
func alike(s api.Spec) map[pair]bool {
	hollow := hollowOf(s)
	related := map[pair]bool{}
	for p, state := range s.States {
		for q, other := range s.States {
			if slices.Equal(offered(state, hollow), offered(other, hollow)) {
				related[pair{p, q}] = true
			}
		}
	}
	for changed := true; changed; {
		changed = false
		for both := range related {
			one, other := follow(s.States[both[0]], hollow), follow(s.States[both[1]], hollow)
			for action, to := range one {
				if to >= 0 && !related[pair{to, other[action]}] {
					delete(related, both)
					changed = true
				}
			}
		}
	}
	return related
}

// leastOf returns the least specification of s, and for each state of s its
// state, by the definitions: states are merged, and then found in their order.
func leastOf(s api.Spec) (api.Spec, []int) {
	places := slices.Repeat([]int{-1}, len(s.States))
	hollow := hollowOf(s)
	if hollow[0] {
		return none(strings.Join(s.Actions, " ")), places
	}
	related := alike(s)
	// A class is stood for by its first state.
	leader := func(state int) int { return firstAlike(related, state) }
	order := []int{0}
	l := api.Spec{Actions: s.Actions}
	for i := 0; i < len(order); i++ {
		state := s.States[order[i]]
		next := follow(state, hollow)
		for action, to := range next {
			if to < 0 {
				continue
			}
			if !slices.Contains(order, leader(to)) {
				order = append(order, leader(to))
			}
			next[action] = slices.Index(order, leader(to))
		}
		l.States = append(l.States, at(offered(state, hollow), next...))
	}
	for state := range reached(s) {
		places[state] = slices.Index(order, leader(state))
	}
	return l, places
}

// firstAlike returns the first state that is related to another one.
func firstAlike(related map[pair]bool, state int) int {
	for other := range state {
		if related[pair{state, other}] {
			return other
		}
	}
	return state
}

// reached returns the states that can be reached in the trimmed specification of
// one that is not hollow.
func reached(s api.Spec) map[int]bool {
	hollow := hollowOf(s)
	found := map[int]bool{}
	var visit func(state int)
	visit = func(state int) {
		if state < 0 || found[state] {
			return
		}
		found[state] = true
		for _, to := range follow(s.States[state], hollow) {
			visit(to)
		}
	}
	visit(0)
	return found
}

// startingAt returns the specification that starts with a copy of another state
// of s, behind which those of s stand.
func startingAt(s api.Spec, state int) api.Spec {
	shifted := clone(s)
	shifted.States = slices.Insert(shifted.States, 0, clone(s).States[state])
	for _, row := range shifted.States {
		for action, to := range row.Next {
			if to >= 0 {
				row.Next[action] = to + 1
			}
		}
	}
	return shifted
}
