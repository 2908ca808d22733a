package meet_test

import (
	"testing"

	"makeweight/api"
	"makeweight/meet"
	"makeweight/prune"
	"makeweight/spec"
)

// P7.1: Meet and Join.

func checkMeet(t *testing.T, s, u api.Spec) api.Spec {
	t.Helper()
	m, e := meet.Meet(s, u)
	taskOf(len(s.Actions), false, nil, s, u).check(t, show("meet of ", s, " and ", u), m, e, s.Actions)
	return m
}

func checkJoin(t *testing.T, s, u api.Spec) api.Spec {
	t.Helper()
	j, e := meet.Join(s, u)
	taskOf(len(s.Actions), true, nil, s, u).check(t, show("join of ", s, " and ", u), j, e, s.Actions)
	return j
}

func TestMeetAndJoinOfExamples(t *testing.T) {
	const (
		maybe  = "spec a;0: {} {a} -> a 0"
		must   = "spec a;0: {a} -> a 0"
		stop   = "spec a;0: {} ->"
		hollow = "spec a;0: ->"
	)
	for _, c := range []struct{ s, t, meet, join string }{
		{maybe, must, must, maybe}, {must, maybe, must, maybe}, {maybe, maybe, maybe, maybe}, {must, must, must, must},
		{may, always, always, may}, {always, may, always, may},
		// Both are not None, and no system satisfies both.
		{must, stop, hollow, "spec a;0: {} {a} -> a 1;1: {a} -> a 1"},
		{"spec a;0: {a} -> a 1;1: {} ->", must, hollow, "spec a;0: {a} -> a 1;1: {} {a} -> a 2;2: {a} -> a 2"},
		{"spec a b;0: {a} -> a 0", "spec a b;0: {b} -> b 0", "spec a b;0: ->", "spec a b;0: {a} {b} -> a 1 b 2;1: {a} -> a 1;2: {b} -> b 2"},
		// A set that both accept leads to states that have none in common.
		{"spec a b;0: {a} {b} -> a 1 b 0;1: {a} -> a 0", "spec a b;0: {a} {b} -> a 1 b 0;1: {b} -> b 0", "spec a b;0: {b} -> b 0", "spec a b;0: {a} {b} -> a 1 b 0;1: {a} {b} -> a 2 b 3;2: {a} {b} -> a 4 b 2;3: {a} {b} -> a 5 b 3;4: {a} -> a 2;5: {b} -> b 3"},
		// None, All, and what is hollow without being None.
		{hollow, must, hollow, must}, {must, hollow, hollow, must}, {hollow, hollow, hollow, hollow}, {hollow, maybe, hollow, maybe},
		{"spec a;0: {a} -> a 1;1: ->", must, hollow, must}, {must, "spec a;0: {a} -> a 1;1: -> a 0", hollow, must},
		{"spec a;0: {a} -> a 1;1: ->", "spec a;0: -> a 0", hollow, hollow},
		{"spec a b;0: {} {a} {b} {a,b} -> a 0 b 0", "spec a b;0: {a} {b} -> a 1 b 1;1: {} ->", "spec a b;0: {a} {b} -> a 1 b 1;1: {} ->", "spec a b;0: {} {a} {b} {a,b} -> a 0 b 0"},
		// States that are hollow, or not reached.
		{"spec a b;0: {a} {b} -> a 1 b 0;1: ->", "spec a b;0: {a} {b} -> a 0 b 1;1: ->", "spec a b;0: ->", "spec a b;0: {a} {b} -> a 1 b 2;1: {a} -> a 1;2: {b} -> b 2"},
		{"spec a;0: {a} -> a 0;1: {} ->", "spec a;0: {a} -> a 2;1: {a} -> a 0;2: {a} -> a 0", must, must},
		// Without actions.
		{"spec;0: {} ->", "spec;0: {} ->", "spec;0: {} ->", "spec;0: {} ->"}, {"spec;0: {} ->", "spec;0: ->", "spec;0: ->", "spec;0: {} ->"}, {"spec;0: ->", "spec;0: ->", "spec;0: ->", "spec;0: ->"},
	} {
		equal(t, show("meet of ", c.s, " and ", c.t), checkMeet(t, of(c.s), of(c.t)), of(c.meet))
		equal(t, show("join of ", c.s, " and ", c.t), checkJoin(t, of(c.s), of(c.t)), of(c.join))
	}
}

func TestMeetAndJoin(t *testing.T) {
	var counts struct{ empty, met, wide, joined int }
	for _, c := range couples() {
		s, u := c[0], c[1]
		m, j := checkMeet(t, s, u), checkJoin(t, s, u)
		hollow := hollowOf(s)[0] || hollowOf(u)[0]
		switch {
		case hollow:
		case len(m.States[0].Accept) == 0:
			counts.empty++
		case len(m.States) > 2:
			counts.met++
		}
		if trimmed, _, _ := prune.Trim(s); !hollow && !spec.Same(j, trimmed) {
			counts.joined++
		}
		if len(j.States) > max(len(s.States), len(u.States)) {
			counts.wide++
		}
	}
	if counts.empty < 50 || counts.met < 100 || counts.joined < 200 || counts.wide < 100 {
		t.Errorf("too few of a kind: %v", counts)
	}
}

// TestMeetOfSystems holds the meet against its definition for all systems with
// one action and at most three states, or two actions and at most two.
func TestMeetOfSystems(t *testing.T) {
	both, one := 0, 0
	for i, c := range couples() {
		s, u := c[0], c[1]
		if len(s.Actions) == 0 || len(s.Actions) > 2 || i%4 == 3 {
			continue
		}
		m, _ := meet.Meet(s, u)
		for _, n := range systems(s.Actions) {
			first, second := satisfies(n, s), satisfies(n, u)
			if satisfies(n, m) != (first && second) {
				t.Errorf("%s satisfies %s: %v, %s: %v, and their meet %s", show(n), show(s), first, show(u), second, show(m))
			}
			switch {
			case first && second:
				both++
			case first || second:
				one++
			}
		}
	}
	if both < 500 || one < 500 {
		t.Errorf("only %d systems satisfy both, %d one", both, one)
	}
}

// TestWhatTheMeetAllowsIsDone makes systems that satisfy the meet, with what it
// accepts after some word. They satisfy both.
func TestWhatTheMeetAllowsIsDone(t *testing.T) {
	done := 0
	for _, c := range couples() {
		m, _ := meet.Meet(c[0], c[1])
		if len(m.Actions) > 3 {
			continue
		}
		for length := range 3 {
			l, _ := prune.Words(m, length)
			for _, word := range l {
				state, _, _ := spec.After(m, word)
				for _, set := range m.States[state].Accept {
					n, e := prune.With(m, word, set)
					if e != api.OK || !satisfies(n, c[0]) || !satisfies(n, c[1]) {
						t.Errorf("%s %d satisfies the meet %s, but not both", show(n), e, show(m))
					}
					done++
				}
			}
		}
	}
	if done < 1000 {
		t.Errorf("only %d systems", done)
	}
}

// TestJoinOfSystems finds systems that satisfy the join: all that satisfy one of
// both, and also some that satisfy neither.
func TestJoinOfSystems(t *testing.T) {
	neither := 0
	for i, c := range couples() {
		s, u := c[0], c[1]
		if len(s.Actions) == 0 || len(s.Actions) > 2 || i%4 == 3 {
			continue
		}
		j, _ := meet.Join(s, u)
		for _, n := range systems(s.Actions) {
			one, joint := satisfies(n, s) || satisfies(n, u), satisfies(n, j)
			if one && !joint {
				t.Errorf("%s does not satisfy the join %s of %s and %s", show(n), show(j), show(s), show(u))
			}
			if joint && !one {
				neither++
			}
		}
	}
	if neither < 80 {
		t.Errorf("only %d systems satisfy only the join", neither)
	}
}

// TestJoinIsMoreThanBoth has a system that goes on in two ways, one of which
// either allows.
func TestJoinIsMoreThanBoth(t *testing.T) {
	s, u := of("spec a b;0: {a} -> a 1;1: {a} -> a 1"), of("spec a b;0: {a} -> a 1;1: {b} -> b 1")
	j := checkJoin(t, s, u)
	for text, want := range map[string][3]bool{
		"system a b;0: a 1;1: a 1":                {true, false, true},
		"system a b;0: a 1;1: b 1":                {false, true, true},
		"system a b;0: a 1 a 2;1: a 1;2: b 2":     {false, false, true},
		"system a b;0: a 1;1: a 2;2: b 2":         {false, false, false},
		"system a b;0: a 1;1: a 1 b 1":            {false, false, false},
		"system a b;0: a 1 b 0;1: a 1":            {false, false, false},
		"system a b;0: a 1 a 2;1: a 1;2: a 2":     {true, false, true},
		"system a b;0: a 1 a 2;1: a 1;2: a 2 b 2": {false, false, false},
	} {
		m := systemOf(text)
		if got := [3]bool{satisfies(m, s), satisfies(m, u), satisfies(m, j)}; got != want {
			t.Errorf("%q: %v, want %v", text, got, want)
		}
	}
}

// TestJoinIsLeast takes all small specifications that both refine: the join
// refines them, too.
func TestJoinIsLeast(t *testing.T) {
	above := 0
	l := small()
	for i, s := range l {
		for k, u := range l {
			j, e := meet.Join(s, u)
			if e != api.OK || !refines(s, j) || !refines(u, j) {
				t.Errorf("%s and %s refine not both their join %s %d", show(s), show(u), show(j), e)
			}
			for _, x := range []api.Spec{l[(i+k)%len(l)], l[(i*k+7)%len(l)], l[(i*7+k*3+1)%len(l)]} {
				both := refines(s, x) && refines(u, x)
				if refines(j, x) != both {
					t.Errorf("%s and %s refine %s: %v, but their join %s does not do the same", show(s), show(u), show(x), both, show(j))
				}
				if both {
					above++
				}
			}
		}
	}
	if above < 500 {
		t.Errorf("only %d are refined by both", above)
	}
}
