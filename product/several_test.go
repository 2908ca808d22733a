package product_test

import (
	"slices"
	"strings"
	"testing"

	"makeweight/api"
	"makeweight/product"
)

// P8.2: Several.

func checkSeveral(t *testing.T, actions []string, l ...api.Spec) api.Spec {
	t.Helper()
	s, e := product.Several(actions, l)
	taskOf(actions, l...).check(t, show("composition of ", l), s, e)
	return s
}

func TestSeveralOfNone(t *testing.T) {
	for names, want := range map[string]string{
		"": "spec;0: {} ->", "a": "spec a;0: {a} -> a 0", "b a": "spec b a;0: {b,a} -> b 0 a 0", "coin tea": "spec coin tea;0: {coin,tea} -> coin 0 tea 0",
		letters: "spec a b c d e f g h;0: {a,b,c,d,e,f,g,h} -> a 0 b 0 c 0 d 0 e 0 f 0 g 0 h 0",
	} {
		for _, l := range [][]api.Spec{nil, {}} {
			equal(t, "composition of none", checkSeveral(t, strings.Fields(names), l...), of(want))
		}
	}
}

func TestSeveralOfOne(t *testing.T) {
	for _, c := range couples() {
		for _, s := range c {
			equal(t, "composition of one", checkSeveral(t, s.Actions, s), s)
		}
	}
	for _, s := range []api.Spec{ring(api.MaxStates), full(letters, api.MaxStates, func(state, action int) int { return (8*state + action + 1) % api.MaxStates })} {
		equal(t, "composition of a large one", checkSeveral(t, s.Actions, s), s)
	}
}

func TestSeveralOfExamples(t *testing.T) {
	const (
		ab   = "spec a b c;0: {a,b} -> a 0 b 0"
		bc   = "spec a b c;0: {b,c} -> b 0 c 0"
		ca   = "spec a b c;0: {a,c} -> a 0 c 0"
		turn = "spec a b c;0: {a,b} -> a 0 b 1;1: {b,c} -> b 0 c 1"
		some = "spec a b c;0: {a} {b} {c} -> a 0 b 0 c 0"
		stop = "spec a b c;0: {} ->"
		no   = "spec a b c;0: ->"
		lost = "spec a b c;0: {a,b,c} -> a 0 b 1 c 0;1: ->"
		abc  = "spec a b c;0: {a,b,c} -> a 0 b 0 c 0"
	)
	for _, c := range []struct {
		l    []string
		want string
	}{
		{[]string{ab, bc}, "spec a b c;0: {b} -> b 0"}, {[]string{ab, bc, ca}, stop}, {[]string{ca, ab, bc}, stop}, {[]string{ab, ab, ab}, ab}, {[]string{abc, bc, abc, abc}, bc},
		{[]string{turn, turn, turn}, turn}, {[]string{turn, bc, turn}, "spec a b c;0: {b} -> b 1;1: {b,c} -> b 0 c 1"}, {[]string{some, some, some}, "spec a b c;0: {} {a} {b} {c} -> a 0 b 0 c 0"},
		{[]string{some, abc}, some}, {[]string{some, ab, abc}, "spec a b c;0: {} {a} {b} -> a 0 b 0"}, {[]string{some, ab, ca}, "spec a b c;0: {} {a} -> a 0"}, {[]string{some, turn}, "spec a b c;0: {} {a} {b} -> a 0 b 1;1: {} {b} {c} -> b 0 c 1"},
		{[]string{ab, no, ca}, no}, {[]string{no, ab}, no}, {[]string{ab, ca, no}, no}, {[]string{no, no}, no}, {[]string{no}, no}, {[]string{stop, no, stop}, no}, {[]string{stop, no}, no},
		{[]string{lost}, no}, {[]string{lost, ab, ca}, no}, {[]string{ab, ca, lost}, no}, {[]string{stop, stop, lost}, no},
		{[]string{stop, ab}, stop}, {[]string{stop, stop, stop, stop, stop, stop, stop, stop}, stop}, {[]string{abc}, abc},
	} {
		var l []api.Spec
		for _, text := range c.l {
			l = append(l, of(text))
		}
		equal(t, show("composition of ", c.l), checkSeveral(t, names(3), l...), of(c.want))
	}
}

// TestSeveralOfMany holds lists of specifications against the definitions for
// all of them at once.
func TestSeveralOfMany(t *testing.T) {
	r := source()
	var counts struct{ none, stopped, moving int }
	for range 900 {
		actions := r.IntN(4)
		var l []api.Spec
		for range 1 + r.IntN(4) {
			l = append(l, []api.Spec{sparse(r, actions, 1+r.IntN(3)), random(r, actions, 1+r.IntN(3), 3+r.IntN(9))}[r.IntN(2)])
		}
		s := checkSeveral(t, names(actions), l...)
		switch {
		case len(l) < 3:
		case len(s.States[0].Accept) == 0:
			counts.none++
		case slices.Equal(s.States[0].Accept, sets(0)):
			counts.stopped++
		case size(s) > 2:
			counts.moving++
		}
	}
	if counts.none < 30 || counts.stopped < 30 || counts.moving < 30 {
		t.Errorf("too few of a kind: %v", counts)
	}
}

// TestSeveralIsComposeOneAfterTheOther also has the same element twice.
func TestSeveralIsComposeOneAfterTheOther(t *testing.T) {
	for i, c := range couples() {
		s, u := c[0], c[1]
		two := checkCompose(t, s, u)
		equal(t, "two", checkSeveral(t, s.Actions, s, u), two)
		if i%3 == 0 && len(s.Actions) < 4 {
			equal(t, "three", checkSeveral(t, s.Actions, s, u, s), checkCompose(t, two, s))
		}
	}
}

// TestSeveralOfVeryMany has a long list of what does not make anything larger.
func TestSeveralOfVeryMany(t *testing.T) {
	choice := of("spec a b c;0: {} {a} {b,c} -> a 0 b 0 c 0")
	for _, c := range []struct {
		l    []api.Spec
		want api.Spec
	}{
		{slices.Repeat([]api.Spec{together("a b c")}, 2000), together("a b c")},
		{slices.Repeat([]api.Spec{choice}, 2000), choice},
		{append(slices.Repeat([]api.Spec{choice}, 2000), none("a b c")), none("a b c")},
		{append(slices.Repeat([]api.Spec{together("a b c")}, 2000), of("spec a b c;0: {a} -> a 1;1: {b,c} -> b 1 c 0")), of("spec a b c;0: {a} -> a 1;1: {b,c} -> b 1 c 0")},
	} {
		s, e := product.Several(names(3), c.l)
		if equal(t, "many", s, c.want); e != api.OK {
			t.Errorf("many: error %d", e)
		}
	}
}

func TestSeveralRefusesOtherActions(t *testing.T) {
	check := func(why string, actions []string, want api.Errno, l ...api.Spec) {
		t.Helper()
		s, e := product.Several(actions, l)
		refused(t, why, s, e, want)
	}
	for why, actions := range badActions() {
		check(why, actions, api.ErrActions)
		check(why, actions, api.ErrActions, all("a"))
		check(why, actions, api.ErrActions, none(""), none(""))
	}
	good := all("a b")
	for _, other := range []api.Spec{all(""), all("a"), all("b a"), all("a c"), all("a b c"), none("a"), of(may)} {
		for _, l := range [][]api.Spec{{other}, {good, other}, {other, good}, {good, good, other, good}, {other, other}, {none("a b"), other}, {other, none("a b")}} {
			check("other actions", names(2), api.ErrActions, l...)
		}
	}
	check("no actions", nil, api.ErrActions, good)
	for why, bad := range badSpecs() {
		for _, l := range [][]api.Spec{{bad}, {good, bad}, {bad, good}, {bad, bad}, {good, all("c"), bad}, {none("a b"), bad}, {bad, all("c")}, {ring(500), ring(499), bad}} {
			// ErrSpec comes before all other errors.
			for _, actions := range [][]string{names(2), names(1), {"1"}, {"a", "a"}, bad.Actions, nil} {
				check(why, actions, api.ErrSpec, l...)
			}
		}
	}
}

// TestSeveralRefusesOtherActionsBeforeLargeLists has elements that together are
// too large.
func TestSeveralRefusesOtherActionsBeforeLargeLists(t *testing.T) {
	l := []api.Spec{ring(500), ring(499)}
	for _, other := range [][]api.Spec{{l[0], l[1], all("b")}, {all("b"), l[0], l[1]}, {l[0], all("b"), l[1]}, {l[0], l[1], none("")}} {
		for _, actions := range [][]string{{"a"}, {"b"}, {"a", "a"}, nil} {
			s, e := product.Several(actions, other)
			refused(t, "other actions", s, e, api.ErrActions)
		}
	}
	for _, actions := range [][]string{{"b"}, {"a", "a"}, {"a", "b"}, nil} {
		s, e := product.Several(actions, l)
		refused(t, "other actions", s, e, api.ErrActions)
	}
}
