package meet_test

import (
	"fmt"
	"slices"
	"testing"

	"makeweight/api"
	"makeweight/prune"
	"makeweight/spec"
)

// What the results must allow, by the definitions, for any number of
// specifications at once.

// A place is where a system is after a word: a state of each specification, -1
// where there is none, and what is left of the words that must not be done.
type place struct {
	states []int
	rests  [][]int
}

func (p place) String() string {
	return fmt.Sprint(p.states, p.rests)
}

// A task says what is allowed at places: what all specifications allow, or what
// implementations of any of them do, but none of the words.
type task struct {
	l      []api.Spec
	words  [][]int
	either bool
	sets   int
}

func taskOf(actions int, either bool, words [][]int, l ...api.Spec) task {
	t := task{words: words, either: either, sets: 1 << actions}
	for _, s := range l {
		if either {
			s = cut(s)
		}
		t.l = append(t.l, s)
	}
	return t
}

// start returns the place of the empty word. A hollow specification has no
// state there if any of several may allow what is done.
func (t task) start() place {
	p := place{states: make([]int, len(t.l)), rests: t.words}
	for i, s := range t.l {
		if t.either && len(s.States[0].Accept) == 0 {
			p.states[i] = -1
		}
	}
	return p
}

// allows returns the sets that may be offered at a place, whatever comes next.
func (t task) allows(p place) []int {
	var l []int
	for set := range t.sets {
		barred := slices.ContainsFunc(p.rests, func(rest []int) bool { return len(rest) == 0 || len(rest) == 1 && has(set, rest[0]) })
		accepting := 0
		for i, s := range t.l {
			if state := p.states[i]; state >= 0 && slices.Contains(s.States[state].Accept, set) {
				accepting++
			}
		}
		if !barred && (accepting == len(t.l) && !t.either || accepting > 0 && t.either) {
			l = append(l, set)
		}
	}
	return l
}

// behind returns the place behind an action.
func (t task) behind(p place, action int) place {
	next := place{}
	for i, s := range t.l {
		to := -1
		if state := p.states[i]; state >= 0 {
			to = s.States[state].Next[action]
		}
		next.states = append(next.states, to)
	}
	for _, rest := range p.rests {
		if rest[0] == action {
			next.rests = append(next.rests, rest[1:])
		}
	}
	return next
}

// places returns all places that can be reached.
func (t task) places() map[string]place {
	found := map[string]place{}
	queue := []place{t.start()}
	for len(queue) > 0 {
		p := queue[0]
		queue = queue[1:]
		if _, known := found[p.String()]; known {
			continue
		}
		found[p.String()] = p
		for _, action := range actionsOf(t.allows(p)) {
			queue = append(queue, t.behind(p, action))
		}
	}
	return found
}

// actionsOf returns the actions that are in any of some sets.
func actionsOf(l []int) []int {
	var actions []int
	for action := range api.MaxActions {
		if slices.ContainsFunc(l, func(set int) bool { return has(set, action) }) {
			actions = append(actions, action)
		}
	}
	return actions
}

// hollow returns the places from which no system can go on.
func (t task) hollow() map[string]bool {
	hollow := map[string]bool{}
	found := t.places()
	for changed := true; changed; {
		changed = false
		for name, p := range found {
			if !hollow[name] && len(t.offers(p, hollow)) == 0 {
				hollow[name], changed = true, true
			}
		}
	}
	return hollow
}

// offers returns the sets that systems offer at a place.
func (t task) offers(p place, hollow map[string]bool) []int {
	return slices.DeleteFunc(t.allows(p), func(set int) bool {
		return slices.ContainsFunc(actionsOf(sets(set)), func(action int) bool { return hollow[t.behind(p, action).String()] })
	})
}

// check fails the test unless a result is trim, and allows exactly what is
// offered at the places.
func (t task) check(test *testing.T, what string, s api.Spec, e api.Errno, actions []string) {
	test.Helper()
	if e != api.OK || spec.Check(s) != api.OK || !slices.Equal(s.Actions, actions) {
		test.Errorf("%s: %s %d", what, show(s), e)
		return
	}
	if trimmed, _, _ := prune.Trim(s); !spec.Same(trimmed, s) {
		test.Errorf("%s: %s is not trim", what, show(s))
	}
	hollow := t.hollow()
	states := map[string]int{}
	var visit func(p place, state int)
	visit = func(p place, state int) {
		name := fmt.Sprint(p, state)
		if _, known := states[name]; known {
			return
		}
		states[name] = state
		offered := t.offers(p, hollow)
		if !slices.Equal(offered, s.States[state].Accept) {
			test.Errorf("%s: %s accepts %v at %s, want %v", what, show(s), s.States[state].Accept, p, offered)
			return
		}
		for _, action := range actionsOf(offered) {
			visit(t.behind(p, action), s.States[state].Next[action])
		}
	}
	visit(t.start(), 0)
}

// cut returns a specification with only the sets that lead to no hollow state,
// and only the actions in these sets.
func cut(s api.Spec) api.Spec {
	hollow := hollowOf(s)
	c := api.Spec{Actions: s.Actions}
	for _, state := range s.States {
		kept := at(offered(state, hollow), slices.Clone(state.Next)...)
		for action := range kept.Next {
			if !slices.Contains(actionsOf(kept.Accept), action) {
				kept.Next[action] = -1
			}
		}
		c.States = append(c.States, kept)
	}
	return c
}

// hollowOf returns for each state of s whether it is hollow.
func hollowOf(s api.Spec) []bool {
	hollow := make([]bool, len(s.States))
	for changed := true; changed; {
		changed = false
		for number, state := range s.States {
			if !hollow[number] && len(offered(state, hollow)) == 0 {
				hollow[number], changed = true, true
			}
		}
	}
	return hollow
}

// offered returns the sets of a state none of whose actions lead to hollow ones.
func offered(state api.State, hollow []bool) []int {
	return slices.DeleteFunc(slices.Clone(state.Accept), func(set int) bool {
		return !canLead(state, set, func(to int) bool { return !hollow[to] })
	})
}
