package pairs_test

import (
	"fmt"
	"slices"
	"strings"
	"testing"

	"makeweight/api"
	"makeweight/pairs"
	"makeweight/spec"
)

// of returns the specification of a string, where semicolons stand for line
// feeds.
func of(text string) api.Spec {
	s, e := spec.Parse(strings.ReplaceAll(text, ";", "\n"))
	if e != api.OK {
		panic(text)
	}
	return s
}

// text returns the string of a specification in the same way, or its error.
func text(s api.Spec, e api.Errno) string {
	x, _ := spec.String(s)
	if e != api.OK {
		return fmt.Sprint(x, "error ", int(e))
	}
	return strings.ReplaceAll(strings.TrimSuffix(x, "\n"), "\n", ";")
}

// both is a way in which pairs accept what both of their states accept, either
// one in which they accept what either accepts.
func both() pairs.Way {
	return pairs.Way{OfNone: spec.All, Accept: func(one, other []int) []int {
		return slices.DeleteFunc(slices.Clone(one), func(set int) bool { return !slices.Contains(other, set) })
	}}
}

func either() pairs.Way {
	return pairs.Way{OfNone: spec.None, Accept: func(one, other []int) []int {
		l := slices.Concat(one, other)
		slices.Sort(l)
		return slices.Compact(l)
	}}
}

// ring returns the specification with one action whose states stand in a ring.
func ring(states int) api.Spec {
	s := api.Spec{Actions: []string{"a"}}
	for state := range states {
		s.States = append(s.States, api.State{Accept: []int{0, 1}, Next: []int{(state + 1) % states}})
	}
	return s
}

func TestFold(t *testing.T) {
	const no = "spec a b;0: ->"
	for _, c := range []struct {
		l            []string
		both, either string
	}{
		{nil, "spec a b;0: {} {a} {b} {a,b} -> a 0 b 0", no},
		{[]string{"spec a b;0: {a} {b} -> a 1 b 0;1: ->"}, "spec a b;0: {b} -> b 0", "spec a b;0: {b} -> b 0"},
		{[]string{"spec a b;0: {a} -> a 1;1: {} {b} -> b 1", "spec a b;0: {a} -> a 1;1: {b} -> b 0"}, no, "spec a b;0: {a} -> a 1;1: {} {b} -> b 2;2: {} {a} {b} -> a 3 b 4;3: {b} -> b 5;4: {} {b} -> b 4;5: {a} -> a 3"},
		{[]string{"spec a b;0: {a} -> a 0", "spec a b;0: {b} -> b 0"}, no, "spec a b;0: {a} {b} -> a 1 b 2;1: {a} -> a 1;2: {b} -> b 2"},
		{[]string{no, "spec a b;0: {a} -> a 0", no}, no, "spec a b;0: {a} -> a 0"},
		{[]string{"spec a b;0: {a} -> a 1;1: ->", "spec a b;0: {} {b} -> b 0"}, no, "spec a b;0: {} {b} -> b 0"},
		{[]string{"spec a b;0: {a} {b} -> a 0 b 0", "spec a b;0: {} {a} {b} -> a 1 b 0;1: {} {a} -> a 1", "spec a b;0: {b} -> b 0"}, "spec a b;0: {b} -> b 0", "spec a b;0: {} {a} {b} -> a 1 b 0;1: {} {a} {b} -> a 1 b 2;2: {a} {b} -> a 2 b 2"},
	} {
		var l []api.Spec
		for _, s := range c.l {
			l = append(l, of(s))
		}
		if got := text(both().Fold([]string{"a", "b"}, l)); got != c.both {
			t.Errorf("both of %q: %q, want %q", c.l, got, c.both)
		}
		if got := text(either().Fold([]string{"a", "b"}, l)); got != c.either {
			t.Errorf("either of %q: %q, want %q", c.l, got, c.either)
		}
	}
}

func TestFoldOfOtherLists(t *testing.T) {
	for _, c := range []struct {
		actions []string
		l       []api.Spec
		want    string
	}{
		{[]string{"1"}, nil, "error 10"}, {[]string{"b"}, []api.Spec{ring(2)}, "error 10"}, {[]string{"a"}, []api.Spec{ring(2), {}}, "error 30"}, {[]string{"1"}, []api.Spec{{}}, "error 30"},
		{[]string{"a"}, []api.Spec{ring(3), ring(167)}, "error 2"}, {[]string{"a"}, []api.Spec{ring(3), ring(167), ring(1)}, "error 2"}, {[]string{"a"}, []api.Spec{ring(3), ring(167), of("spec b;0: ->")}, "error 10"},
	} {
		for _, w := range []pairs.Way{both(), either()} {
			if got := text(w.Fold(c.actions, c.l)); got != c.want {
				t.Errorf("fold with %q: %.80q, want %q", c.actions, got, c.want)
			}
		}
	}
}

func TestCheck(t *testing.T) {
	good, other, bad := ring(2), of("spec a b;0: ->"), api.Spec{}
	for _, c := range []struct {
		l    []api.Spec
		want api.Errno
	}{
		{nil, api.OK}, {[]api.Spec{good}, api.OK}, {[]api.Spec{good, ring(500)}, api.OK}, {[]api.Spec{other}, api.ErrActions}, {[]api.Spec{good, other}, api.ErrActions}, {[]api.Spec{other, good}, api.ErrActions},
		{[]api.Spec{bad}, api.ErrSpec}, {[]api.Spec{good, bad}, api.ErrSpec}, {[]api.Spec{other, bad}, api.ErrSpec}, {[]api.Spec{bad, other}, api.ErrSpec},
	} {
		if got := pairs.Check([]string{"a"}, c.l...); got != c.want {
			t.Errorf("Check of %v = %d, want %d", c.l, got, c.want)
		}
	}
}

// TestMakeAtTheBound has as many pairs as a specification may have states, and
// one more.
func TestMakeAtTheBound(t *testing.T) {
	for states, want := range map[int]api.Errno{1: api.OK, 499: api.OK, 500: api.OK, 501: api.ErrLarge, 1 << 40: api.ErrLarge} {
		counting := pairs.Side{Accept: func(int) []int { return []int{1} }, Lead: func(state, _ int) int { return (state + 1) % states }}
		s, e := both().Make([]string{"a"}, counting, pairs.Of(ring(1)))
		if e != want || e == api.OK && len(s.States) != states || e != api.OK && len(s.Actions)+len(s.States) > 0 {
			t.Errorf("%d pairs: %d states, error %d, want %d", states, len(s.States), e, want)
		}
	}
}

// TestMakeOfOtherSides starts where a side starts, and asks it only where actions
// of accepted sets lead.
func TestMakeOfOtherSides(t *testing.T) {
	side := pairs.Side{First: 7, Accept: func(state int) []int { return []int{state % 4} }, Lead: func(state, action int) int {
		if state%4>>action&1 == 0 {
			panic("not in a set")
		}
		return (state + 2 - action) % 8
	}}
	all := of("spec a b;0: {} {a} {b} {a,b} -> a 0 b 0")
	got := text(both().Make([]string{"a", "b"}, side, pairs.Of(all)))
	if want := "spec a b;0: {a,b} -> a 1 b 2;1: {a} -> a 3;2: {} ->;3: {a,b} -> a 4 b 5;4: {a} -> a 0;5: {} ->"; got != want {
		t.Errorf("another first state: %q, want %q", got, want)
	}
}

// TestOf has a trimmed specification that goes on alone from where the other one
// is not.
func TestOf(t *testing.T) {
	side := pairs.Of(of("spec a b;0: {a} -> a 1;1: {} ->"))
	if got := fmt.Sprint(side.First, side.Accept(0), side.Lead(0, 0), side.Lead(0, 1), side.Accept(1), side.Accept(-1), side.Lead(-1, 0), side.Lead(-1, 1)); got != "0 [1] 1 -1 [0] [] -1 -1" {
		t.Errorf("a side: %s", got)
	}
	side = pairs.Of(of("spec a b;0: ->"))
	if got := fmt.Sprint(side.First, side.Accept(side.First), side.Lead(side.First, 1)); got != "-1 [] -1" {
		t.Errorf("the side of None: %s", got)
	}
}
