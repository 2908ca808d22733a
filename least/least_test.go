package least_test

import (
	"fmt"
	"slices"
	"strings"
	"testing"

	"makeweight/api"
	"makeweight/least"
	"makeweight/refine"
	"makeweight/spec"
)

// P6.2: Least and Is.

const (
	may    = "spec coin tea;0: {coin} -> coin 1;1: {} {tea} -> tea 0"
	always = "spec coin tea;0: {coin} -> coin 1;1: {tea} -> tea 0"
)

// checkLeast fails the test unless Least and Is have the expected results.
func checkLeast(t *testing.T, s, want api.Spec, places []int) {
	t.Helper()
	got, at, e := least.Least(s)
	same(t, show("Least of ", s), got, want)
	if !slices.Equal(at, places) || e != api.OK {
		t.Errorf("Least(%s): %s %d, want %s", show(s), show(at), e, show(places))
	}
	if spec.Check(got) != api.OK {
		t.Errorf("Least(%s) = %s is not valid", show(s), show(got))
	}
	if is, e := least.Is(s); is != spec.Same(s, want) || e != api.OK {
		t.Errorf("Is(%s) = %v %d, want %v", show(s), is, e, !is)
	}
}

func TestLeastOfExamples(t *testing.T) {
	for _, c := range []struct {
		text, want string
		places     []int
	}{
		// Example 1 of the chapter.
		{"spec a;0: {a} -> a 1;1: {a} -> a 0", "spec a;0: {a} -> a 0", []int{0, 0}},
		// Nothing is to be merged.
		{may, may, []int{0, 1}}, {always, always, []int{0, 1}}, {"spec;0: {} ->", "spec;0: {} ->", []int{0}},
		{"spec a;0: {a} -> a 1;1: {a} -> a 2;2: {} ->", "spec a;0: {a} -> a 1;1: {a} -> a 2;2: {} ->", []int{0, 1, 2}},
		// States are only in another order.
		{"spec a b;0: {a,b} -> a 2 b 1;1: {} ->;2: {a} -> a 1", "spec a b;0: {a,b} -> a 1 b 2;1: {a} -> a 2;2: {} ->", []int{0, 2, 1}},
		{"spec a;0: {a} -> a 2;1: {} ->;2: {a} -> a 1", "spec a;0: {a} -> a 1;1: {a} -> a 2;2: {} ->", []int{0, 2, 1}},
		// Several states are one, which leads to itself or to another one.
		{"spec a;0: {a} -> a 1;1: {a} -> a 2;2: {a} -> a 0", "spec a;0: {a} -> a 0", []int{0, 0, 0}},
		{"spec a;0: {a} -> a 1;1: {} {a} -> a 2;2: {a} -> a 3;3: {} {a} -> a 0", "spec a;0: {a} -> a 1;1: {} {a} -> a 0", []int{0, 1, 0, 1}},
		{"spec a;0: {} {a} -> a 2;1: {a} -> a 2;2: {a} -> a 1", "spec a;0: {} {a} -> a 1;1: {a} -> a 1", []int{0, 1, 1}},
		// The classes have the order in which they are found, not that of
		// their first states, nor that of what is behind the first action.
		{"spec a b;0: {a,b} -> a 3 b 2;1: {} ->;2: {} {a} -> a 1;3: {a} -> a 4;4: {} ->", "spec a b;0: {a,b} -> a 1 b 2;1: {a} -> a 3;2: {} {a} -> a 3;3: {} ->", []int{0, 3, 2, 1, 3}},
		{"spec a b;0: {a,b} -> a 4 b 3;1: {} ->;2: {b} -> b 2;3: {} ->;4: {a,b} -> a 2 b 1", "spec a b;0: {a,b} -> a 1 b 2;1: {a,b} -> a 3 b 2;2: {} ->;3: {b} -> b 3", []int{0, 2, 3, 2, 1}},
		{"spec a b;0: {a,b} -> a 1 b 2;1: {a} -> a 3;2: {a} -> a 4;3: {b} -> b 3;4: {b} -> b 3", "spec a b;0: {a,b} -> a 1 b 1;1: {a} -> a 2;2: {b} -> b 2", []int{0, 1, 1, 2, 2}},
		// Hollow ones become None, whatever they have otherwise; all states
		// then have no place.
		{"spec;0: ->", "spec;0: ->", []int{-1}}, {"spec a b;0: -> a 0 b 0", "spec a b;0: ->", []int{-1}}, {"spec a;0: ->;1: ->", "spec a;0: ->", []int{-1, -1}},
		{"spec a b;0: {a} -> a 1 b 2;1: ->;2: {} ->", "spec a b;0: ->", []int{-1, -1, -1}}, {"spec;0: ->;1: {} ->", "spec;0: ->", []int{-1, -1}},
		{"spec a;0: {a} -> a 1;1: {a} -> a 2;2: -> a 0", "spec a;0: ->", []int{-1, -1, -1}},
		// Sets that lead to hollow states are lost as a whole, and with them
		// actions and states that may be reached through them.
		{"spec a b;0: {a} {b} -> a 1 b 0;1: ->", "spec a b;0: {b} -> b 0", []int{0, -1}},
		{"spec a b;0: {a} {a,b} -> a 2 b 1;1: ->;2: {a} -> a 0 b 1", "spec a b;0: {a} -> a 0", []int{0, -1, 0}},
		{"spec a b;0: {} {a,b} -> a 1 b 2;1: {} ->;2: ->", "spec a b;0: {} ->", []int{0, -1, -1}},
		{"spec a b;0: {a} {b} -> a 1 b 2;1: {a,b} -> a 0 b 3;2: {b} -> b 2;3: {a} -> a 3;4: {b} -> b 0", "spec a b;0: {a} {b} -> a 1 b 2;1: {a,b} -> a 0 b 3;2: {b} -> b 2;3: {a} -> a 3", []int{0, 1, 2, 3, -1}},
		// A state all of whose sets are lost is lost itself.
		{"spec a b;0: {a} {b} -> a 1 b 0;1: {a} {b} {a,b} -> a 2 b 2;2: {a} -> a 3;3: ->", "spec a b;0: {b} -> b 0", []int{0, -1, -1, -1}},
		// An action in no set does not matter, nor what it leads to.
		{"spec a b;0: {a} -> a 1 b 2;1: {a} -> a 0;2: {} ->", "spec a b;0: {a} -> a 0", []int{0, 0, -1}},
		// States that are not reached have no place, though their class has.
		{"spec a;0: {a} -> a 0;1: {a} -> a 0;2: {} ->;3: ->", "spec a;0: {a} -> a 0", []int{0, -1, -1, -1}},
		{"spec a b;0: {b} {a,b} -> a 1 b 0;1: {a} -> a 2;2: ->;3: {b} -> b 0", "spec a b;0: {b} -> b 0", []int{0, -1, -1, -1}},
		{"spec a b;0: {a} {a,b} -> a 0 b 2;1: ->;2: {a} {b} -> a 3 b 1;3: {} {a} -> a 4;4: {} {a} -> a 4;5: {} {a} -> a 4", "spec a b;0: {a} {a,b} -> a 0 b 1;1: {a} -> a 2;2: {} {a} -> a 2", []int{0, -1, 1, 2, 2, -1}},
		// One that differs only in what trimming takes away.
		{"spec a b;0: {a} {b} -> a 1 b 2;1: {a} -> a 1;2: {a} {a,b} -> a 1 b 3;3: ->", "spec a b;0: {a} {b} -> a 1 b 1;1: {a} -> a 1", []int{0, 1, 1, -1}},
	} {
		checkLeast(t, of(c.text), of(c.want), c.places)
	}
}

func TestLeastOfNoneAndAll(t *testing.T) {
	for n := range api.MaxActions + 1 {
		names := letters[:max(2*n-1, 0)]
		checkLeast(t, none(names), none(names), []int{-1})
		checkLeast(t, all(names), all(names), []int{0})
		// Several states that do the same.
		one := full(names, 4, func(state, action int) int { return (state*3 + action) % 4 })
		got, _, _ := least.Least(one)
		same(t, "several that accept all", got, all(names))
		two := none(names)
		two.States = append(two.States, two.States[0])
		checkLeast(t, two, none(names), []int{-1, -1})
	}
}

func TestLeastOfRandomSpecifications(t *testing.T) {
	is, merged, trimmed, hollow := 0, 0, 0, 0
	for _, s := range specs() {
		want, places := leastOf(s)
		checkLeast(t, s, want, places)
		switch {
		case spec.Same(s, want):
			is++
		case hollowOf(s)[0]:
			hollow++
		case len(want.States) < len(reached(s)):
			merged++
		default:
			trimmed++
		}
	}
	if is < 50 || merged < 200 || trimmed < 100 || hollow < 20 {
		t.Errorf("too much alike: %d are least, %d merged, %d only trimmed, %d hollow", is, merged, trimmed, hollow)
	}
}

func TestIs(t *testing.T) {
	for _, c := range []struct {
		text string
		want bool
	}{
		{may, true}, {"spec;0: {} ->", true}, {"spec;0: ->", true}, {"spec a b;0: ->", true}, {"spec a;0: {a} -> a 1;1: {} ->", true},
		{"spec a;0: {a} -> a 1;1: {a} -> a 0", false}, {"spec a;0: ->;1: ->", false}, {"spec a;0: -> a 0", false}, {"spec a;0: {a} -> a 1;1: ->", false},
		// The order of states, a state that is not reached, an action in no
		// set, and a set that leads to a hollow state.
		{"spec a b;0: {a,b} -> a 2 b 1;1: {} ->;2: {a} -> a 1", false}, {"spec a b;0: {a,b} -> a 1 b 2;1: {a} -> a 2;2: {} ->", true},
		{"spec a;0: {a} -> a 0;1: {} ->", false}, {"spec a;0: {} -> a 0", false}, {"spec a b;0: {a} {b} -> a 1 b 0;1: ->", false},
	} {
		if is, e := least.Is(of(c.text)); is != c.want || e != api.OK {
			t.Errorf("Is of %q: %v %d, want %v", c.text, is, e, c.want)
		}
	}
}

// W1 and W8 of the results.

func TestLeastHasTheSameImplementations(t *testing.T) {
	for _, s := range specs() {
		l, _, _ := least.Least(s)
		if is, e := refine.Equal(s, l); !is || e != api.OK {
			t.Errorf("Least(%s) = %s: %v %d", show(s), show(l), is, e)
		}
		text, _ := spec.String(l)
		if back, e := spec.Parse(text); !spec.Same(back, l) || e != api.OK {
			t.Errorf("Least(%s) = %s is not parsed back: %s %d", show(s), show(l), show(back), e)
		}
	}
}

// TestPlacesHaveTheSameImplementations has a look at each state of s and its
// place.
func TestPlacesHaveTheSameImplementations(t *testing.T) {
	for _, s := range specs() {
		l, places, _ := least.Least(s)
		for state, place := range places {
			if place < 0 {
				continue
			}
			if is, e := refine.Equal(startingAt(s, state), startingAt(l, place)); !is || e != api.OK {
				t.Errorf("Least(%s) = %s %v: state %d does not belong there, %d", show(s), show(l), places, state, e)
			}
		}
	}
}

// P6.4: unique.

func TestLeastIsUnique(t *testing.T) {
	r := source()
	for _, s := range specs() {
		l, _, _ := least.Least(s)
		b, _ := blown(r, s, 2*len(s.States))
		for _, other := range []api.Spec{b, rewritten(r, s), rewritten(r, b), rewritten(r, rewritten(r, l)), startingAt(s, 0)} {
			if spec.Check(other) != api.OK {
				t.Fatalf("%s is not valid", show(other))
			}
			got, _, e := least.Least(other)
			same(t, show("like ", s, ": ", other), got, l)
			if e != api.OK {
				t.Errorf("Least(%s): error %d", show(other), e)
			}
		}
	}
}

func TestLeastSpecificationsAreEqualForTheSameImplementations(t *testing.T) {
	r := source()
	equal, different := 0, 0
	for range 4000 {
		s, u := sparse(r, 1, 1+r.IntN(5)), sparse(r, 1, 1+r.IntN(5))
		if r.IntN(2) == 0 {
			s, u = random(r, 1, 1+r.IntN(4), 4), random(r, 1, 1+r.IntN(4), 4)
		}
		k, _, _ := least.Least(s)
		l, _, _ := least.Least(u)
		is, e := refine.Equal(s, u)
		if is != spec.Same(k, l) || e != api.OK {
			t.Errorf("%s and %s have the same ones: %v %d; their least ones are %s and %s", show(s), show(u), is, e, show(k), show(l))
		}
		if is {
			equal++
		} else {
			different++
		}
	}
	if equal < 300 || different < 300 {
		t.Errorf("%d couples have the same implementations, %d do not", equal, different)
	}
}

func TestLeastOfLeast(t *testing.T) {
	for _, s := range append(specs(), ring(api.MaxStates), notched(api.MaxStates, 499)) {
		l, _, _ := least.Least(s)
		var places []int
		for state := range l.States {
			places = append(places, state)
		}
		if len(l.States[0].Accept) == 0 {
			places = []int{-1}
		}
		checkLeast(t, l, l, places)
	}
}

// P6.5: least.

// states returns all states with so many actions that lead to one of so many
// states or nowhere.
func states(actions, count int) []api.State {
	l := []api.State{{}}
	for range actions {
		var more []api.State
		for _, state := range l {
			for to := -1; to < count; to++ {
				more = append(more, at(nil, append(slices.Clone(state.Next), to)...))
			}
		}
		l = more
	}
	var accepting []api.State
	for _, state := range l {
		var may []int
		for set := range 1 << actions {
			if canLead(state, set, func(to int) bool { return to >= 0 }) {
				may = append(may, set)
			}
		}
		for choice := range 1 << len(may) {
			var accept []int
			for i, set := range may {
				if has(choice, i) {
					accept = append(accept, set)
				}
			}
			accepting = append(accepting, at(accept, state.Next...))
		}
	}
	return accepting
}

// every returns all specifications with so many actions and states.
func every(actions, count int) []api.Spec {
	l := []api.Spec{build(strings.Join(strings.Fields(letters)[:actions], " "))}
	for range count {
		var longer []api.Spec
		for _, s := range l {
			for _, state := range states(actions, count) {
				longer = append(longer, api.Spec{Actions: s.Actions, States: append(slices.Clone(s.States), state)})
			}
		}
		l = longer
	}
	return l
}

// allowed says what systems that satisfy s may offer after the words of a length
// at most. Specifications for which it is equal have the same implementations,
// if they have only so many states, together.
func allowed(s api.Spec, length int) string {
	hollow := hollowOf(s)
	if hollow[0] {
		return "none"
	}
	var from func(state, length int) string
	from = func(state, length int) string {
		text := fmt.Sprint(offered(s.States[state], hollow))
		for _, to := range follow(s.States[state], hollow) {
			if to >= 0 && length > 0 {
				text += "(" + from(to, length-1) + ")"
			}
		}
		return text
	}
	return from(0, length)
}

// TestLeastOfAllSmallSpecifications groups them by their implementations.
func TestLeastOfAllSmallSpecifications(t *testing.T) {
	for _, c := range []struct {
		actions, most int
	}{{0, 3}, {1, 3}, {2, 2}} {
		fewest, leasts := map[string]int{}, map[string]string{}
		for count := 1; count <= c.most; count++ {
			for _, s := range every(c.actions, count) {
				key := allowed(s, 2*c.most-1)
				if fewest[key] == 0 {
					fewest[key] = count
				}
				l, _, e := least.Least(s)
				text := fmt.Sprint(l)
				if leasts[key] == "" {
					leasts[key] = text
				}
				if len(l.States) != fewest[key] || leasts[key] != text || allowed(l, 2*c.most-1) != key || e != api.OK {
					t.Fatalf("Least(%s) = %s %d, where %s has %d states", show(s), text, e, leasts[key], fewest[key])
				}
			}
		}
		others := map[string]bool{}
		for _, text := range leasts {
			others[text] = true
		}
		if len(others) != len(leasts) {
			t.Errorf("%d actions: %d groups have %d least ones", c.actions, len(leasts), len(others))
		}
	}
}

// TestNoTwoStatesOfLeastAreAlike has no states to merge, or to leave out.
func TestNoTwoStatesOfLeastAreAlike(t *testing.T) {
	for _, s := range specs() {
		l, _, _ := least.Least(s)
		if len(alike(l)) != len(l.States) {
			t.Errorf("Least(%s) = %s has states with the same implementations", show(s), show(l))
		}
		if len(l.States) > 1 && (len(reached(l)) != len(l.States) || slices.Contains(hollowOf(l), true)) {
			t.Errorf("Least(%s) = %s has states that nothing needs", show(s), show(l))
		}
	}
}
