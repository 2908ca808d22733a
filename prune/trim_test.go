package prune_test

import (
	"slices"
	"testing"

	"makeweight/api"
	"makeweight/prune"
	"makeweight/spec"
)

// P4.2: Trim.

func TestTrimOfExamples(t *testing.T) {
	for _, c := range []struct {
		text, want string
		from       []int
	}{
		// Example 1 of the chapter.
		{"spec a b;0: {a} {b} -> a 1 b 0;1: ->", "spec a b;0: {b} -> b 0", []int{0}},
		// Nothing is to be trimmed.
		{"spec;0: {} ->", "spec;0: {} ->", []int{0}},
		{"spec coin tea;0: {coin} -> coin 1;1: {} {tea} -> tea 0", "spec coin tea;0: {coin} -> coin 1;1: {} {tea} -> tea 0", []int{0, 1}},
		// A hollow specification becomes None, whatever it has otherwise.
		{"spec;0: ->", "spec;0: ->", nil},
		{"spec a b;0: -> a 0 b 0", "spec a b;0: ->", nil},
		{"spec a b;0: {a} -> a 1 b 2;1: ->;2: {} ->", "spec a b;0: ->", nil},
		// A whole set goes if one of its actions leads to a hollow state, and
		// with it the action, if no other set has it.
		{"spec a b;0: {a} {a,b} -> a 0 b 1;1: ->", "spec a b;0: {a} -> a 0", []int{0}},
		{"spec a b;0: {} {a,b} -> a 0 b 1;1: ->", "spec a b;0: {} ->", []int{0}},
		{"spec a b;0: {} {a} {b} {a,b} -> a 1 b 0;1: ->", "spec a b;0: {} {b} -> b 0", []int{0}},
		{"spec a b c;0: {a,b} {c} {a,c} {b,c} -> a 0 b 1 c 0;1: ->", "spec a b c;0: {c} {a,c} -> a 0 c 0", []int{0}},
		// An action that is in no set goes, also if it leads to itself.
		{"spec a b;0: {a} -> a 0 b 0", "spec a b;0: {a} -> a 0", []int{0}},
		{"spec a b;0: {} -> a 0 b 1;1: {} ->", "spec a b;0: {} ->", []int{0}},
		// States that can no longer be reached go, also those that are not
		// hollow.
		{"spec a b;0: {a} {a,b} -> a 2 b 1;1: ->;2: {} ->", "spec a b;0: {a} -> a 1;1: {} ->", []int{0, 2}},
		{"spec a b;0: {} {a,b} -> a 1 b 2;1: {} ->;2: ->", "spec a b;0: {} ->", []int{0}},
		{"spec a;0: {} ->;1: {a} -> a 0;2: {a} -> a 1", "spec a;0: {} ->", []int{0}},
		// The others have the order in which they are found: not that of s,
		// not that of what is found behind the first action first.
		{"spec a b;0: {a,b} -> a 2 b 1;1: {} ->;2: {a} -> a 1", "spec a b;0: {a,b} -> a 1 b 2;1: {a} -> a 2;2: {} ->", []int{0, 2, 1}},
		{"spec a b;0: {a,b} -> a 3 b 2;1: {} ->;2: {} ->;3: {a} -> a 1", "spec a b;0: {a,b} -> a 1 b 2;1: {a} -> a 3;2: {} ->;3: {} ->", []int{0, 3, 2, 1}},
		{"spec a b;0: {b} -> b 2;1: {} {a,b} -> a 0 b 1;2: {a} {b} -> a 2 b 1", "spec a b;0: {b} -> b 1;1: {a} {b} -> a 1 b 2;2: {} {a,b} -> a 0 b 2", []int{0, 2, 1}},
		// Several ones with the same implementations stay apart.
		{"spec a;0: {a} -> a 1;1: {a} -> a 0", "spec a;0: {a} -> a 1;1: {a} -> a 0", []int{0, 1}},
	} {
		got, from, e := prune.Trim(of(c.text))
		same(t, c.text, got, of(c.want))
		if !slices.Equal(from, c.from) || e != api.OK {
			t.Errorf("Trim of %q: %v %d, want %v", c.text, from, e, c.from)
		}
	}
}

// trimmed returns the trimmed specification of s, and where its states come
// from, by the definition.
func trimmed(s api.Spec) (api.Spec, []int) {
	hollow := hollowOf(s)
	if hollow[0] {
		none := api.State{}
		for range s.Actions {
			none.Next = append(none.Next, -1)
		}
		return api.Spec{Actions: s.Actions, States: []api.State{none}}, nil
	}
	left := clone(s)
	for number := range left.States {
		state := &left.States[number]
		state.Accept = slices.DeleteFunc(state.Accept, func(set int) bool { return !canLead(s.States[number], set, hollow) })
		for action := range state.Next {
			if !slices.ContainsFunc(state.Accept, func(set int) bool { return has(set, action) }) {
				state.Next[action] = -1
			}
		}
	}
	from := []int{0}
	for i := 0; i < len(from); i++ {
		for _, to := range left.States[from[i]].Next {
			if to >= 0 && !slices.Contains(from, to) {
				from = append(from, to)
			}
		}
	}
	u := api.Spec{Actions: s.Actions}
	for _, number := range from {
		state := left.States[number]
		for action, to := range state.Next {
			state.Next[action] = slices.Index(from, to)
		}
		u.States = append(u.States, state)
	}
	return u, from
}

func TestTrimOfRandomSpecifications(t *testing.T) {
	changed, hollow := 0, 0
	for _, s := range specs() {
		want, states := trimmed(s)
		got, from, e := prune.Trim(s)
		same(t, show(s), got, want)
		if !slices.Equal(from, states) || e != api.OK {
			t.Errorf("Trim(%s): %v %d, want %v", show(s), from, e, states)
		}
		if spec.Check(got) != api.OK {
			t.Errorf("Trim(%s) = %s is not valid", show(s), show(got))
		}
		if states == nil {
			hollow++
		} else if !spec.Same(s, want) {
			changed++
		}
	}
	if changed < 100 || hollow < 50 {
		t.Errorf("only %d specifications change, and %d are hollow", changed, hollow)
	}
}

func TestTrimAtTheLimits(t *testing.T) {
	got, from, e := prune.Trim(ring(api.MaxStates))
	same(t, "a ring", got, ring(api.MaxStates))
	if len(from) != api.MaxStates || !slices.IsSorted(from) || e != api.OK {
		t.Errorf("a ring: %v %d", from, e)
	}
	got, from, e = prune.Trim(chain(api.MaxStates))
	same(t, "a chain", got, build("a", at(nil, -1)))
	if len(from) != 0 || e != api.OK {
		t.Errorf("a chain: %v %d", from, e)
	}
	s := large()
	s.States[100].Accept = nil
	want, states := trimmed(s)
	got, from, e = prune.Trim(s)
	same(t, "a large one", got, want)
	if !slices.Equal(from, states) || len(from) < 400 || e != api.OK {
		t.Errorf("a large one: %v %d", from, e)
	}
	refused(t, "a ring above the limit", ring(api.MaxStates+1))
}

// P4.4: the same implementations.

func TestTrimKeepsTheImplementations(t *testing.T) {
	r := source()
	right, wrong := 0, 0
	for _, s := range specs() {
		u, _, _ := prune.Trim(s)
		for range 20 {
			m := near(r, s)
			is := satisfies(t, m, s)
			if is != satisfies(t, m, u) {
				t.Errorf("%s satisfies %s: %v, but not so when it is trimmed", show(m), show(s), is)
			}
			if is {
				right++
			} else {
				wrong++
			}
		}
	}
	if right < 500 || wrong < 500 {
		t.Errorf("only %d systems are right, and %d wrong", right, wrong)
	}
}

func TestTrimAgainChangesNothing(t *testing.T) {
	for _, s := range append(specs(), ring(api.MaxStates), chain(api.MaxStates), large()) {
		u, _, _ := prune.Trim(s)
		again, from, e := prune.Trim(u)
		same(t, show(u), again, u)
		if e != api.OK {
			t.Errorf("Trim of the trimmed %s: error %d", show(s), e)
		}
		for number, state := range from {
			if number != state {
				t.Errorf("Trim of the trimmed %s: %v", show(s), from)
			}
		}
		if l, _ := prune.Hollow(u); len(l) > 0 && len(from) > 0 {
			t.Errorf("the trimmed %s has the hollow states %v", show(s), l)
		}
	}
}
