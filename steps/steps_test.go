package steps_test

import (
	"fmt"
	"slices"
	"strings"
	"testing"

	"makeweight/api"
	"makeweight/spec"
	"makeweight/steps"
	"makeweight/system"
)

// of returns the specification of a string, where semicolons stand for line
// feeds.
func of(text string) api.Spec {
	s, e := spec.Parse(strings.ReplaceAll(text, ";", "\n"))
	if e != api.OK {
		panic(text)
	}
	return s
}

func TestLeads(t *testing.T) {
	state := api.State{Accept: []int{0, 5, 7}, Next: []int{4, 2, 4}}
	for set, want := range map[int][][2]int{0: nil, 1: {{0, 4}}, 5: {{0, 4}, {2, 4}}, 6: {{1, 2}, {2, 4}}, 7: {{0, 4}, {1, 2}, {2, 4}}} {
		var got [][2]int
		for action, to := range steps.Leads(state, set) {
			got = append(got, [2]int{action, to})
		}
		if !slices.Equal(got, want) {
			t.Errorf("Leads of %d: %v, want %v", set, got, want)
		}
		for range steps.Leads(state, set) {
			break
		}
	}
}

func TestAfter(t *testing.T) {
	s := of("spec a b;0: {a} {b} -> a 1 b 0;1: {} {b} -> b 2;2: ->;3: {} -> a 0")
	long := slices.Repeat([]int{1}, 20000)
	for _, c := range []struct {
		word  []int
		state int
		there bool
	}{
		{nil, 0, true}, {[]int{0}, 1, true}, {[]int{1, 1, 0, 1}, 2, true}, {long, 0, true}, {append(long, 0), 1, true},
		{[]int{0, 0}, 0, false}, {[]int{0, 1, 0}, 0, false}, {[]int{0, 0, 1}, 0, false}, {append([]int{0, 1}, long...), 0, false},
	} {
		if state, there := steps.After(s, c.word); state != c.state || there != c.there {
			t.Errorf("After %.40v = %d %v, want %d %v", c.word, state, there, c.state, c.there)
		}
	}
}

func TestMeets(t *testing.T) {
	state := api.State{Accept: []int{0, 3, 7}, Next: []int{0, 1, 2}}
	for _, c := range []struct {
		set    int
		marked []int
		want   bool
	}{
		{0, []int{0, 1, 2}, false}, {1, []int{0}, true}, {1, []int{1, 2}, false}, {3, []int{1}, true}, {3, []int{0}, true}, {3, []int{2}, false}, {7, []int{2}, true}, {7, nil, false},
	} {
		if got := steps.Meets(state, c.set, steps.Marks(3, c.marked)); got != c.want {
			t.Errorf("Meets of %d and %v = %v", c.set, c.marked, got)
		}
	}
}

func TestMarks(t *testing.T) {
	for _, c := range []struct {
		states int
		l      []int
		want   []bool
	}{
		{0, nil, nil}, {2, nil, []bool{false, false}}, {3, []int{2, 0}, []bool{true, false, true}}, {2, []int{1, 1}, []bool{false, true}},
	} {
		if got := steps.Marks(c.states, c.l); !slices.Equal(got, c.want) {
			t.Errorf("Marks(%d, %v) = %v", c.states, c.l, got)
		}
	}
}

func TestWithout(t *testing.T) {
	const text = "spec a b;0: {a} {b} {a,b} -> a 1 b 0;1: {a} -> a 2;2: -> b 0"
	for want, hollow := range map[string][]int{
		"spec a b;0: {a} {b} {a,b} -> a 1 b 0;1: {a} -> a 2;2: ->": nil,
		"spec a b;0: {a} {b} {a,b} -> a 1 b 0;1: ->;2: ->":         {2},
		"spec a b;0: {b} -> b 0;1: ->;2: ->":                       {2, 1},
		"spec a b;0: {b} -> b 0;1: {a} -> a 2;2: ->":               {1},
	} {
		s := of(text)
		left := steps.Without(s.States, hollow)
		if !spec.Same(api.Spec{Actions: s.Actions, States: left}, of(want)) || !spec.Same(s, of(text)) {
			t.Errorf("without %v: %v, want %v", hollow, left, of(want).States)
		}
	}
}

// TestAlong has words of all lengths, also longer ones than a word may be.
func TestAlong(t *testing.T) {
	s := of("spec a b;0: {} {a} {b} {a,b} -> a 0 b 1;1: {b} {a,b} -> a 1 b 2;2: {a} {b} -> a 0 b 2")
	before := fmt.Sprint(s)
	for length := range 200 {
		word := make([]int, length*length)
		for i := range word {
			word[i] = i * i % 7 % 2
		}
		checkAlong(t, s, word)
	}
	if fmt.Sprint(s) != before {
		t.Errorf("%s became %v", before, s)
	}
}

// checkAlong fails the test unless Along returns a system for each set that the
// state after the word accepts.
func checkAlong(t *testing.T, s api.Spec, word []int) {
	t.Helper()
	state := 0
	for _, action := range word {
		state = s.States[state].Next[action]
	}
	for _, set := range s.States[state].Accept {
		m := steps.Along(s, word, set)
		if v, e := spec.Satisfies(m, s); !v.Holds || e != api.OK {
			t.Errorf("a word of length %d: %v does not satisfy the specification, %d", len(word), m, e)
			continue
		}
		if !slices.Contains(offersAfter(m, word), set) {
			t.Errorf("a word of length %d: %v does not offer %d", len(word), m, set)
		}
	}
}

// offersAfter returns what the states of m after the word, of any length, offer.
func offersAfter(m api.System, word []int) []int {
	now := []int{0}
	for _, action := range word {
		var next []int
		for _, state := range now {
			for _, e := range m.States[state] {
				if e.Action == action && !slices.Contains(next, e.To) {
					next = append(next, e.To)
				}
			}
		}
		now = next
	}
	var offers []int
	for _, state := range now {
		set, _ := system.Offer(m, state)
		offers = append(offers, set)
	}
	return offers
}

// TestAlongWithoutHollowStates has states that accept nothing any more.
func TestAlongWithoutHollowStates(t *testing.T) {
	s := of("spec a b;0: {a} {b} -> a 1 b 2;1: {a} -> a 3;2: {} {b} -> b 0;3: ->")
	left := api.Spec{Actions: s.Actions, States: steps.Without(s.States, []int{3, 1})}
	for _, word := range [][]int{nil, {1}, {1, 1}, {1, 1, 1}} {
		checkAlong(t, left, word)
	}
}

func TestRenumber(t *testing.T) {
	for _, c := range []struct{ next, numbers, want []int }{
		{nil, []int{0}, nil}, {[]int{0, 1, 2}, []int{2, 0, 0}, []int{2, 0, 0}}, {[]int{-1, 1, -1, 0, 1}, []int{7, 3}, []int{-1, 3, -1, 7, 3}}, {[]int{-1}, nil, []int{-1}},
	} {
		got := slices.Clone(c.next)
		steps.Renumber(got, c.numbers)
		if !slices.Equal(got, c.want) {
			t.Errorf("Renumber of %v by %v: %v, want %v", c.next, c.numbers, got, c.want)
		}
	}
}
