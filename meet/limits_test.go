package meet_test

import (
	"slices"
	"testing"

	"makeweight/api"
	"makeweight/least"
	"makeweight/meet"
)

// The numbers of states up to which ErrLarge may not be returned, and those from
// which on it must be: no specification says the same with MaxStates states.

// turning returns the specification with so many positions in which the first
// action of each of k pairs turns one of k things. That with number i is its
// own; what it accepts depends on its position.
func turning(k, i, positions int, accept func(position int) []int) api.Spec {
	s := api.Spec{Actions: names(2 * k)}
	for position := range positions {
		next := slices.Repeat([]int{position}, 2*k)
		next[2*i] = (position + 1) % positions
		s.States = append(s.States, at(accept(position), next...))
	}
	return s
}

// wheel returns a specification of which k with other numbers have a meet with a
// state for each list of positions: the second action of each pair can be done
// where the position is not 0.
func wheel(k, i, positions int) api.Spec {
	return turning(k, i, positions, func(position int) []int {
		var l []int
		for action := range 2 * k {
			if action != 2*i+1 || position > 0 {
				l = append(l, 1<<action)
			}
		}
		return l
	})
}

// dial returns a specification of which k with other numbers have a join with a
// state for each list of positions, of which one or more are there: the second
// action of its pair cannot be done.
func dial(k, i, positions int) api.Spec {
	return turning(k, i, positions, func(position int) []int {
		var l []int
		mark := 1 << (2 * i)
		for j := range k {
			l = append(l, 1<<(2*j))
			if j != i {
				l = append(l, 2<<(2*j))
				mark |= 2 << (2 * j)
			}
		}
		if position == 0 {
			l = append(l, mark)
		}
		slices.Sort(l)
		return slices.Compact(l)
	})
}

// listed returns specifications, one for each number of positions.
func listed(one func(k, i, positions int) api.Spec, positions ...int) []api.Spec {
	var l []api.Spec
	for i, n := range positions {
		l = append(l, one(len(positions), i, n))
	}
	return l
}

// size returns the number of states of the least specification of s.
func size(s api.Spec) int {
	l, _, _ := least.Least(s)
	return len(l.States)
}

// mayFit fails the test unless a result is right, or is refused.
func (t task) mayFit(test *testing.T, what string, s api.Spec, e api.Errno, actions []string) {
	test.Helper()
	if e == api.ErrLarge {
		refused(test, what, s, e, api.ErrLarge)
		return
	}
	t.check(test, what, s, e, actions)
}

func TestMeetAtTheBound(t *testing.T) {
	for _, n := range []int{1, 2, 3, 4, 10, 20, 21, 30, 100, 166, 249} {
		m := (api.MaxStates+1)/(n+1) - 1 // n*m + n + m is at most MaxStates
		l := listed(wheel, n, m)
		if s := checkMeet(t, l[0], l[1]); size(s) != n*m {
			t.Errorf("%d and %d positions: %d states", n, m, size(s))
		}
		l = listed(wheel, n, m+1)
		s, e := meet.Meet(l[0], l[1])
		taskOf(4, false, nil, l...).mayFit(t, "just above", s, e, names(4))
		l = listed(wheel, n, api.MaxStates/n+1)
		if n > 1 {
			s, e = meet.Meet(l[0], l[1])
			refused(t, "far above", s, e, api.ErrLarge)
		}
	}
	// Far above the bound, but the result is small: it may be either.
	for _, l := range [][]api.Spec{{ring(500), ring(499)}, {notched(500), notched(500)}, {ring(500), ring(500)}, {all("a"), notched(500)}} {
		s, e := meet.Meet(l[0], l[1])
		if e == api.ErrLarge {
			refused(t, "small", s, e, api.ErrLarge)
			continue
		}
		if e != api.OK || !refines(s, l[0]) || !refines(s, l[1]) || hollowOf(s)[0] {
			t.Errorf("small: %s %d", show(s), e)
		}
	}
}

func TestJoinAtTheBound(t *testing.T) {
	for _, n := range []int{1, 2, 3, 4, 10, 20, 21, 30, 100, 166, 249} {
		m := (api.MaxStates+1)/(n+1) - 1
		l := listed(dial, n, m)
		if s := checkJoin(t, l[0], l[1]); size(s) != n*m+n+m {
			t.Errorf("%d and %d positions: %d states", n, m, size(s))
		}
		// One more position makes too many states: each of them is another one.
		l = listed(dial, n, m+1)
		s, e := meet.Join(l[0], l[1])
		refused(t, "just above", s, e, api.ErrLarge)
		s, e = meet.Join(l[1], l[0])
		refused(t, "just above", s, e, api.ErrLarge)
	}
	if s, e := meet.Join(dial(2, 0, 2), dial(2, 1, 166)); size(s) != api.MaxStates || e != api.OK {
		t.Errorf("MaxStates states: %s %d", show(s), e)
	}
}

// TestListsAtTheBound has lists for which the product of the numbers of states,
// each plus 1, is at most MaxStates, and those for which it is more.
func TestListsAtTheBound(t *testing.T) {
	for _, c := range []struct{ most, more []int }{
		{[]int{499}, []int{500}}, {[]int{1, 249}, []int{1, 250}}, {[]int{249, 1}, []int{250, 1}}, {[]int{4, 99}, []int{4, 100}}, {[]int{4, 9, 9}, []int{4, 9, 10}}, {[]int{9, 9, 4}, []int{9, 10, 4}},
		{[]int{1, 1, 124}, []int{1, 1, 125}}, {[]int{124, 1, 1}, []int{125, 1, 1}}, {[]int{4, 4, 3, 4}, []int{4, 4, 4, 4}}, {[]int{1, 4, 4, 9}, []int{2, 4, 4, 9}},
	} {
		k := len(c.most)
		product := 1
		for _, n := range c.most {
			product *= n + 1
		}
		if m := checkAll(t, names(2*k), listed(wheel, c.most...)...); size(m) > product || size(m) < product/9 {
			t.Errorf("all of %v: %d states", c.most, size(m))
		}
		m, e := meet.All(names(2*k), listed(wheel, c.more...))
		taskOf(2*k, false, nil, listed(wheel, c.more...)...).mayFit(t, show("all of ", c.more), m, e, names(2*k))
		if k > 1 {
			if j := checkAny(t, names(2*k), listed(dial, c.most...)...); size(j) != product-1 {
				t.Errorf("any of %v: %d states, want %d", c.most, size(j), product-1)
			}
		}
		j, e := meet.Any(names(2*k), listed(dial, c.more...))
		taskOf(2*k, true, nil, listed(dial, c.more...)...).mayFit(t, show("any of ", c.more), j, e, names(2*k))
	}
}

// TestListsFarAboveTheBound has lists of which the results, some of them already
// those of the first elements, have more states than there may be.
func TestListsFarAboveTheBound(t *testing.T) {
	for _, positions := range [][]int{{8, 8, 8}, {2, 251}, {23, 23, 1}, {1, 23, 23, 1}, {250, 250, 250, 250}} {
		m, e := meet.All(names(2*len(positions)), listed(wheel, positions...))
		refused(t, show("all of ", positions), m, e, api.ErrLarge)
	}
	for _, positions := range [][]int{{7, 7, 7}, {2, 167}, {22, 22, 1}, {1, 23, 23, 1}, {250, 250, 250, 250}} {
		j, e := meet.Any(names(2*len(positions)), listed(dial, positions...))
		refused(t, show("any of ", positions), j, e, api.ErrLarge)
	}
}

// TestListsWithHollowElementsAtTheBound has elements that nothing satisfies: they
// count, but add nothing.
func TestListsWithHollowElementsAtTheBound(t *testing.T) {
	l := listed(dial, 1, 124)
	hollow := clone(l[0])
	hollow.States = append([]api.State{at(sets(1), 1, 1, 1, 1)}, at(nil, 0, 0, 0, 0))
	for _, some := range [][]api.Spec{{none("a b c d"), l[0], l[1]}, {l[0], none("a b c d"), l[1]}, {l[0], l[1], none("a b c d")}, {hollow, dial(2, 0, 1), dial(2, 1, 80)}, {dial(2, 0, 1), hollow, dial(2, 1, 80)}} {
		if j := checkAny(t, names(4), some...); size(j) < 160 {
			t.Errorf("any with a hollow one: %d states", size(j))
		}
		equal(t, "all with a hollow one", checkAll(t, names(4), some...), none("a b c d"))
	}
}

// loops returns the specification with two actions that accepts everything, of
// which a turns, and b leads back.
func loops(states int) api.Spec {
	s := full("a b", states, func(state, action int) int { return (1 - action) * (state + 1) % states })
	s.States[0].Accept = sets(0, 1, 2)
	return s
}

func TestOnlyAtTheBound(t *testing.T) {
	for _, c := range []struct {
		s     api.Spec
		words [][]int
		want  int
	}{
		// The product is MaxStates, or as close as can be.
		{all("a"), [][]int{make([]int, 499)}, 499}, {all("a b"), [][]int{make([]int, 499)}, 500}, {all("a b"), [][]int{make([]int, 249), slices.Repeat([]int{1}, 250)}, 499},
		{all("a b"), [][]int{slices.Repeat([]int{0}, 400), slices.Repeat([]int{0}, 99)}, 100}, {loops(2), [][]int{make([]int, 249)}, 251}, {loops(2), [][]int{slices.Repeat([]int{0, 1, 1}, 83)}, 251},
		{loops(250), [][]int{{0}}, 251}, {loops(250), [][]int{{1}}, 251}, {loops(100), [][]int{{0, 0, 0, 1}}, 104}, {loops(100), [][]int{{0, 0}, {0, 1}}, 102}, {loops(166), [][]int{{1, 0}}, 168},
		{loops(500), nil, 500}, {loops(500), [][]int{{}, {}}, 1}, {ring(500), nil, 1}, {notched(500), nil, 500}, {notched(250), [][]int{{0}}, 1},
		{loops(125), [][]int{{0}, {1}, {0}}, 1}, {loops(125), [][]int{{0}, {0}, {0}}, 126},
	} {
		o := checkOnly(t, c.s, c.words...)
		if size(o) != c.want {
			t.Errorf("Only of %d states without %s: %d states, want %d", len(c.s.States), show(c.words), size(o), c.want)
		}
	}
}

func TestOnlyAboveTheBound(t *testing.T) {
	for _, c := range []struct {
		s     api.Spec
		words [][]int
	}{
		{all("a"), [][]int{make([]int, 500)}}, {all("a b"), [][]int{make([]int, 250), slices.Repeat([]int{1}, 250)}}, {loops(2), [][]int{make([]int, 250)}}, {loops(250), [][]int{{0}, {0}}}, {loops(251), [][]int{{1}}},
		{loops(500), [][]int{{0}}}, {loops(499), [][]int{{0}}}, {notched(500), [][]int{{0}}}, {ring(500), [][]int{make([]int, api.MaxWord)}}, {all("a b"), [][]int{make([]int, api.MaxWord), {1}, {0, 0}}},
	} {
		o, e := meet.Only(c.s, c.words)
		taskOf(len(c.s.Actions), false, c.words, c.s).mayFit(t, show("Only of ", len(c.s.States), c.words), o, e, c.s.Actions)
	}
	// Each of these results would have too many states.
	for _, c := range []struct {
		s     api.Spec
		words [][]int
	}{
		{all("a"), [][]int{make([]int, 501)}}, {all("a b"), [][]int{make([]int, 500)}}, {loops(2), [][]int{make([]int, 499)}}, {loops(498), [][]int{{0, 0, 0}}}, {loops(500), [][]int{{1}}},
		{all("a"), [][]int{make([]int, api.MaxWord)}}, {all(letters), [][]int{make([]int, api.MaxWord), slices.Repeat([]int{7}, api.MaxWord)}}, {all(letters), words(8, 4)},
	} {
		o, e := meet.Only(c.s, c.words)
		refused(t, show("Only of ", len(c.s.States), len(c.words)), o, e, api.ErrLarge)
	}
}

// TestTheLargest has specifications with all states and all actions.
func TestTheLargest(t *testing.T) {
	whole := full(letters, api.MaxStates, func(state, action int) int { return (8*state + action + 1) % api.MaxStates })
	marked := full(letters, api.MaxStates, func(state, _ int) int { return (state + 1) % api.MaxStates })
	marked.States[api.MaxStates-1].Accept = sets(0, 1, 255)
	for _, l := range [][]api.Spec{{whole, all(letters)}, {all(letters), whole}, {marked, marked}, {marked, all(letters)}, {whole, whole}, {whole, marked}, {marked, none(letters)}, {none(letters), marked}} {
		m, e := meet.Meet(l[0], l[1])
		if e != api.ErrLarge && (e != api.OK || !refines(m, l[0]) || !refines(m, l[1])) {
			t.Errorf("meet of the largest: %s %d", show(m), e)
		}
		j, e := meet.Join(l[0], l[1])
		if e != api.ErrLarge && (e != api.OK || !refines(l[0], j) || !refines(l[1], j)) {
			t.Errorf("join of the largest: %s %d", show(j), e)
		}
	}
	o, e := meet.Only(marked, nil)
	if equal(t, "only the largest", o, marked); e != api.OK {
		t.Errorf("only the largest: error %d", e)
	}
}
