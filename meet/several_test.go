package meet_test

import (
	"slices"
	"strings"
	"testing"

	"makeweight/api"
	"makeweight/meet"
	"makeweight/spec"
)

// P7.2: All and Any.

func checkAll(t *testing.T, actions []string, l ...api.Spec) api.Spec {
	t.Helper()
	s, e := meet.All(actions, l)
	taskOf(len(actions), false, nil, l...).check(t, show("all of ", l), s, e, actions)
	return s
}

func checkAny(t *testing.T, actions []string, l ...api.Spec) api.Spec {
	t.Helper()
	s, e := meet.Any(actions, l)
	taskOf(len(actions), true, nil, l...).check(t, show("any of ", l), s, e, actions)
	return s
}

func TestAllAndAnyOfNone(t *testing.T) {
	for _, names := range []string{"", "a", "b a", "coin tea", letters} {
		actions := strings.Fields(names)
		for _, l := range [][]api.Spec{nil, {}} {
			equal(t, "all of none", checkAll(t, actions, l...), all(names))
			equal(t, "any of none", checkAny(t, actions, l...), none(names))
		}
	}
}

func TestAllAndAnyOfOne(t *testing.T) {
	for _, c := range couples() {
		for _, s := range c {
			checkAll(t, s.Actions, s)
			checkAny(t, s.Actions, s)
		}
	}
	for _, s := range []api.Spec{ring(api.MaxStates), notched(api.MaxStates), full(letters, api.MaxStates, func(state, action int) int { return (8*state + action + 1) % api.MaxStates })} {
		equal(t, "all of one", checkAll(t, s.Actions, s), s)
		equal(t, "any of one", checkAny(t, s.Actions, s), s)
	}
}

func TestAllAndAnyOfExamples(t *testing.T) {
	const (
		full = "spec a b;0: {} {a} {b} {a,b} -> a 0 b 0"
		a    = "spec a b;0: {} {a} {a,b} -> a 0 b 0"
		b    = "spec a b;0: {} {b} {a,b} -> a 0 b 0"
		one  = "spec a b;0: {} {a} {b} -> a 0 b 0"
		stop = "spec a b;0: {} ->"
		goOn = "spec a b;0: {a} {b} {a,b} -> a 0 b 0"
		no   = "spec a b;0: ->"
	)
	for _, c := range []struct {
		l        []string
		all, any string
	}{
		{[]string{a, b}, "spec a b;0: {} {a,b} -> a 0 b 0", "spec a b;0: {} {a} {b} {a,b} -> a 0 b 0"},
		{[]string{a, b, one}, stop, full}, {[]string{one, b, a}, stop, full}, {[]string{a, a, a}, a, a},
		{[]string{a, b, one, goOn}, no, full}, {[]string{stop, goOn}, no, "spec a b;0: {} {a} {b} {a,b} -> a 1 b 1;1: {a} {b} {a,b} -> a 1 b 1"},
		{[]string{a, no, b}, no, full}, {[]string{no, no, a}, no, a}, {[]string{a, no, no}, no, a}, {[]string{no, no}, no, no},
		{[]string{full, full, a}, a, full}, {[]string{a, full}, a, full}, {[]string{full, no}, no, full},
		{[]string{stop, stop, stop, stop, stop, stop, stop, stop, stop, stop}, stop, stop},
	} {
		var l []api.Spec
		for _, text := range c.l {
			l = append(l, of(text))
		}
		equal(t, show("all of ", c.l), checkAll(t, names(2), l...), of(c.all))
		equal(t, show("any of ", c.l), checkAny(t, names(2), l...), of(c.any))
	}
}

// TestAllAndAnyOfSeveral holds lists of specifications against the definitions
// for all of them at once.
func TestAllAndAnyOfSeveral(t *testing.T) {
	r := source()
	met, grown := 0, 0
	for range 600 {
		actions := r.IntN(4)
		var l []api.Spec
		first := random(r, actions, 1+r.IntN(3), 4+r.IntN(4))
		for range 1 + r.IntN(4) {
			l = append(l, []api.Spec{near(r, first), random(r, actions, 1+r.IntN(3), 3+r.IntN(5))}[r.IntN(2)])
		}
		m := checkAll(t, names(actions), l...)
		j := checkAny(t, names(actions), l...)
		if len(l) > 2 && len(m.States[0].Accept) > 0 {
			met++
		}
		if len(l) > 2 && len(j.States) > 6 {
			grown++
		}
	}
	if met < 50 || grown < 50 {
		t.Errorf("only %d meets and %d joins of several", met, grown)
	}
}

// TestAllAndAnyOfMany has long lists of what does not make anything larger.
func TestAllAndAnyOfMany(t *testing.T) {
	l := slices.Repeat([]api.Spec{notched(3)}, 2000)
	m, e := meet.All(names(1), l)
	if equal(t, "all of many", m, notched(3)); e != api.OK || len(m.States) != 3 {
		t.Errorf("all of many: %s %d", show(m), e)
	}
	j, e := meet.Any(names(1), l)
	if equal(t, "any of many", j, notched(3)); e != api.OK || len(j.States) != 3 {
		t.Errorf("any of many: %s %d", show(j), e)
	}
}

func TestAllAndAnyRefuseOtherActions(t *testing.T) {
	check := func(why string, actions []string, l []api.Spec, want api.Errno) {
		t.Helper()
		s, e := meet.All(actions, l)
		refused(t, why+": All", s, e, want)
		s, e = meet.Any(actions, l)
		refused(t, why+": Any", s, e, want)
	}
	for why, actions := range badActions() {
		check(why, actions, nil, api.ErrActions)
		check(why, actions, []api.Spec{all("a")}, api.ErrActions)
		check(why, actions, []api.Spec{none("")}, api.ErrActions)
	}
	good := all("a b")
	for _, other := range []api.Spec{all(""), all("a"), all("b a"), all("a c"), all("a b c"), none("a"), of(may)} {
		for _, l := range [][]api.Spec{{other}, {good, other}, {other, good}, {good, good, other, good}, {other, other}, {none("a b"), other}, {other, none("a b")}} {
			check("other actions", names(2), l, api.ErrActions)
		}
	}
	for why, bad := range badSpecs() {
		for _, l := range [][]api.Spec{{bad}, {good, bad}, {bad, good}, {bad, bad}, {good, all("c"), bad}, {none("a b"), bad}, {bad, all("c")}, {ring(api.MaxStates), ring(api.MaxStates - 1), bad}} {
			// ErrSpec comes before all other errors.
			check(why, names(2), l, api.ErrSpec)
			check(why, []string{"1"}, l, api.ErrSpec)
			check(why, bad.Actions, l, api.ErrSpec)
			check(why, nil, l, api.ErrSpec)
		}
	}
}

// TestErrActionsBeforeErrLarge has elements that together are too large.
func TestErrActionsBeforeErrLarge(t *testing.T) {
	l := []api.Spec{notched(500), notched(499)}
	for _, other := range [][]api.Spec{append(slices.Clone(l), all("b")), append([]api.Spec{all("b")}, l...), {l[0], all("b"), l[1]}} {
		for _, actions := range [][]string{{"a"}, {"b"}, {"a", "a"}} {
			s, e := meet.All(actions, other)
			refused(t, "All", s, e, api.ErrActions)
			s, e = meet.Any(actions, other)
			refused(t, "Any", s, e, api.ErrActions)
		}
	}
	s, e := meet.All([]string{"a"}, l)
	refused(t, "All", s, e, api.ErrLarge)
	s, e = meet.Any([]string{"a"}, l)
	refused(t, "Any", s, e, api.ErrLarge)
}

// TestAllAndAnyAreMeetAndJoin of pairs, one after the other.
func TestAllAndAnyAreMeetAndJoin(t *testing.T) {
	for i, c := range couples() {
		s, u := c[0], c[1]
		m, _ := meet.Meet(s, u)
		equal(t, "all of two", checkAll(t, s.Actions, s, u), m)
		j, _ := meet.Join(s, u)
		equal(t, "any of two", checkAny(t, s.Actions, s, u), j)
		if i%4 > 0 || spec.Same(s, u) {
			continue
		}
		again, _ := meet.Meet(m, near(source(), s))
		equal(t, "all of three", checkAll(t, s.Actions, s, u, near(source(), s)), again)
		again, _ = meet.Join(j, near(source(), s))
		equal(t, "any of three", checkAny(t, s.Actions, s, u, near(source(), s)), again)
	}
}
