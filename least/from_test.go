package least_test

import (
	"math"
	"slices"
	"testing"

	"makeweight/api"
	"makeweight/least"
)

// P6.3: From and Residual.

// checkFrom fails the test unless From returns the expected specification.
func checkFrom(t *testing.T, s api.Spec, state int, want api.Spec) {
	t.Helper()
	got, e := least.From(s, state)
	same(t, show("From ", state, " of ", s), got, want)
	if e != api.OK {
		t.Errorf("From(%s, %d): error %d", show(s), state, e)
	}
}

func TestFromOfExamples(t *testing.T) {
	for _, c := range []struct {
		text  string
		state int
		want  string
	}{
		{may, 0, may}, {may, 1, "spec coin tea;0: {} {tea} -> tea 1;1: {coin} -> coin 0"}, {"spec;0: {} ->", 0, "spec;0: {} ->"},
		{"spec a;0: {a} -> a 1;1: {a} -> a 2;2: {} ->", 1, "spec a;0: {a} -> a 1;1: {} ->"}, {"spec a;0: {a} -> a 1;1: {a} -> a 2;2: {} ->", 2, "spec a;0: {} ->"},
		// State 0 is reached again, or its like.
		{"spec a b;0: {a} -> a 2;1: {b} -> b 1;2: {b} -> b 0", 2, "spec a b;0: {b} -> b 1;1: {a} -> a 0"}, {"spec a b;0: {a} -> a 2;1: {b} -> b 1;2: {b} -> b 0", 1, "spec a b;0: {b} -> b 0"},
		{"spec a;0: {a} -> a 1;1: {} {a} -> a 2;2: {a} -> a 1", 1, "spec a;0: {} {a} -> a 1;1: {a} -> a 0"},
		// States that are not reached from state 0, and to which their
		// actions lead.
		{"spec a;0: {} ->;1: {a} -> a 2;2: {a} -> a 1;3: {a} -> a 0", 1, "spec a;0: {a} -> a 0"}, {"spec a;0: {} ->;1: {a} -> a 2;2: {a} -> a 1;3: {a} -> a 0", 3, "spec a;0: {a} -> a 1;1: {} ->"},
		// The other order, behind another state.
		{"spec a b;0: {} ->;1: {a,b} -> a 3 b 2;2: {b} -> b 0;3: {a} -> a 0", 1, "spec a b;0: {a,b} -> a 1 b 2;1: {a} -> a 3;2: {b} -> b 3;3: {} ->"},
		// A hollow one, or one of a hollow specification.
		{"spec a b;0: {a} {b} -> a 1 b 0;1: -> b 0", 1, "spec a b;0: ->"}, {"spec a b;0: {a} {b} -> a 1 b 0;1: -> b 0", 0, "spec a b;0: {b} -> b 0"},
		{"spec a b;0: {a} -> a 1;1: {a} -> a 0;2: {b} -> b 3;3: {a} -> a 0;4: ->", 2, "spec a b;0: {b} -> b 1;1: {a} -> a 1"},
		{"spec a b;0: -> a 1 b 2;1: {a} {b} -> a 2 b 0;2: {b} -> b 1", 1, "spec a b;0: {a} -> a 1;1: {b} -> b 0"}, {"spec a;0: ->", 0, "spec a;0: ->"}, {"spec a;0: ->;1: {a} -> a 0", 1, "spec a;0: ->"},
	} {
		checkFrom(t, of(c.text), c.state, of(c.want))
	}
}

func TestFromOfNoneAndAll(t *testing.T) {
	for n := range api.MaxActions + 1 {
		names := letters[:max(2*n-1, 0)]
		checkFrom(t, none(names), 0, none(names))
		checkFrom(t, all(names), 0, all(names))
	}
}

func TestFromOfRandomSpecifications(t *testing.T) {
	hollow := 0
	for _, s := range specs() {
		for state := range s.States {
			want, _ := leastOf(startingAt(s, state))
			checkFrom(t, s, state, want)
			if state > 0 && hollowOf(s)[state] {
				hollow++
			}
		}
		l, _, _ := least.Least(s)
		checkFrom(t, s, 0, l)
	}
	if hollow < 100 {
		t.Errorf("only %d other states are hollow", hollow)
	}
}

// TestFromOfStatesOfAClass has the same least specification for them.
func TestFromOfStatesOfAClass(t *testing.T) {
	for _, s := range specs() {
		classes, _ := least.Classes(s)
		for state, class := range classes {
			first, _ := least.From(s, slices.Index(classes, class))
			checkFrom(t, s, state, first)
		}
	}
}

func TestFromOfOtherNumbers(t *testing.T) {
	for _, s := range []api.Spec{of(may), none(""), ring(3), all(letters), chain(2), ring(api.MaxStates)} {
		for _, state := range []int{-1, len(s.States), len(s.States) + 1, math.MinInt, math.MaxInt, 1 << 32, -1 << 32} {
			if got, e := least.From(s, state); len(got.Actions)+len(got.States) != 0 || e != api.ErrArg {
				t.Errorf("From(%s, %d) = %s %d, want ErrArg", show(s), state, show(got), e)
			}
		}
	}
}

// checkResidual fails the test unless Residual returns the expected one, or
// none.
func checkResidual(t *testing.T, s api.Spec, word []int, want api.Spec, there bool) {
	t.Helper()
	got, is, e := least.Residual(s, word)
	same(t, show("Residual of ", s, " after ", word), got, want)
	if is != there || e != api.OK {
		t.Errorf("Residual(%s, %s): %v %d, want %v", show(s), show(word), is, e, there)
	}
}

func TestResidualOfExamples(t *testing.T) {
	const lost = "spec a b;0: {a} {b} -> a 1 b 0;1: -> b 2;2: {a} -> a 2"
	for _, c := range []struct {
		text string
		word []int
		want string // nothing if there is no state
	}{
		{may, nil, may}, {may, []int{}, may}, {may, []int{0}, "spec coin tea;0: {} {tea} -> tea 1;1: {coin} -> coin 0"}, {may, []int{0, 1}, may}, {may, []int{1}, ""}, {may, []int{0, 0}, ""},
		{may, []int{0, 1, 0, 1, 1}, ""}, {may, []int{1, 0}, ""}, {"spec;0: {} ->", nil, "spec;0: {} ->"}, {"spec;0: ->", nil, "spec;0: ->"}, {"spec a b;0: ->", []int{1}, ""}, {"spec a b;0: ->", nil, "spec a b;0: ->"},
		// Words are those of s, not of what is left of it: they go through
		// hollow states, and by actions in no set.
		{lost, nil, "spec a b;0: {b} -> b 0"}, {lost, []int{1, 1}, "spec a b;0: {b} -> b 0"}, {lost, []int{0}, "spec a b;0: ->"}, {lost, []int{1, 0, 1}, "spec a b;0: {a} -> a 0"}, {lost, []int{0, 0}, ""},
		{lost, []int{0, 1, 0}, "spec a b;0: {a} -> a 0"}, {lost, []int{0, 1, 1}, ""}, {"spec a;0: {} -> a 1;1: {a} -> a 1", []int{0}, "spec a;0: {a} -> a 0"}, {"spec a;0: -> a 1;1: {} ->", []int{0}, "spec a;0: {} ->"},
	} {
		want := api.Spec{}
		if c.want != "" {
			want = of(c.want)
		}
		checkResidual(t, of(c.text), c.word, want, c.want != "")
	}
}

func TestResidualOfRandomSpecifications(t *testing.T) {
	r := source()
	there, nowhere := 0, 0
	for _, s := range specs() {
		for range 10 {
			word := make([]int, r.IntN(5)*min(len(s.Actions), 1))
			state := 0
			for i := range word {
				word[i] = r.IntN(len(s.Actions))
				if state >= 0 {
					state = s.States[state].Next[word[i]]
				}
			}
			if state < 0 {
				nowhere++
				checkResidual(t, s, word, api.Spec{}, false)
				continue
			}
			there++
			want, _ := leastOf(startingAt(s, state))
			checkResidual(t, s, word, want, true)
		}
	}
	if there < 1000 || nowhere < 500 {
		t.Errorf("only %d words lead somewhere, and %d nowhere", there, nowhere)
	}
}

func TestResidualOfNoWords(t *testing.T) {
	long := make([]int, api.MaxWord+1)
	for _, s := range []api.Spec{of(may), none("a"), all("a"), ring(3), chain(2), none(""), all(letters)} {
		n := len(s.Actions)
		for _, word := range [][]int{{-1}, {n}, {n, 0}, {math.MaxInt}, {math.MinInt}, {1 << 32}, long, append(slices.Clone(long), n)} {
			if got, is, e := least.Residual(s, word); len(got.Actions)+len(got.States) != 0 || is || e != api.ErrArg {
				t.Errorf("Residual(%s, %s) = %s %v %d, want ErrArg", show(s), show(word), show(got), is, e)
			}
		}
		// A number that is not that of an action behind a word that leads
		// nowhere.
		if n == 2 {
			if got, is, e := least.Residual(s, []int{1, 1, 2}); len(got.Actions)+len(got.States) != 0 || is || e != api.ErrArg {
				t.Errorf("Residual(%s) behind nothing = %s %v %d, want ErrArg", show(s), show(got), is, e)
			}
		}
	}
}
