package spec_test

import (
	"fmt"
	"math"
	"math/rand/v2"
	"slices"
	"testing"

	"makeweight/api"
	"makeweight/spec"
	"makeweight/system"
)

// P3.4: Satisfies and Right.

// offered returns the set that a state offers.
func offered(m api.System, state int) int {
	set := 0
	for _, e := range m.States[state] {
		set |= 1 << e.Action
	}
	return set
}

// isStep reports whether a pair meets the definition of satisfaction, when the
// pairs of a relation are given.
func isStep(m api.System, s api.Spec, pair [2]int, related func([2]int) bool) bool {
	if !slices.Contains(s.States[pair[1]].Accept, offered(m, pair[0])) {
		return false
	}
	return !slices.ContainsFunc(m.States[pair[0]], func(e api.Edge) bool {
		return !related([2]int{e.To, s.States[pair[1]].Next[e.Action]})
	})
}

// satisfies reports whether m satisfies s: pairs that break the definition are
// taken out of the relation of all of them until none does.
func satisfies(m api.System, s api.Spec) bool {
	related := map[[2]int]bool{}
	for k := range m.States {
		for l := range s.States {
			related[[2]int{k, l}] = true
		}
	}
	for changed := true; changed; {
		changed = false
		for pair := range related {
			if !isStep(m, s, pair, func(p [2]int) bool { return related[p] }) {
				delete(related, pair)
				changed = true
			}
		}
	}
	return related[[2]int{0, 0}]
}

// leastPairs returns the least relation, in order, for a system that satisfies
// a specification.
func leastPairs(m api.System, s api.Spec) [][2]int {
	l := [][2]int{{0, 0}}
	for i := 0; i < len(l); i++ {
		for _, e := range m.States[l[i][0]] {
			pair := [2]int{e.To, s.States[l[i][1]].Next[e.Action]}
			if !slices.Contains(l, pair) {
				l = append(l, pair)
			}
		}
	}
	slices.SortFunc(l, func(p, q [2]int) int { return slices.Compare(p[:], q[:]) })
	return l
}

// reached returns the states of m after a list of actions.
func reached(m api.System, actions []int) []int {
	now := []int{0}
	for _, action := range actions {
		var next []int
		for _, state := range now {
			for _, e := range m.States[state] {
				if e.Action == action && !slices.Contains(next, e.To) {
					next = append(next, e.To)
				}
			}
		}
		now = next
	}
	slices.Sort(now)
	return now
}

// misfits returns the states of m after a list of actions that show that it is
// a fault, if it is one.
func misfits(m api.System, s api.Spec, actions []int) []int {
	number := after(s, actions)
	return slices.DeleteFunc(reached(m, actions), func(state int) bool {
		return number >= 0 && slices.Contains(s.States[number].Accept, offered(m, state))
	})
}

// isFault reports whether a list of actions is a fault, by the definition.
func isFault(m api.System, s api.Spec, actions []int) bool {
	for i := range actions {
		if isFault(m, s, actions[:i]) {
			return false
		}
	}
	return len(misfits(m, s, actions)) > 0
}

// shortest returns the length of a shortest fault, -1 if there is none. Of
// lists of actions that lead to the same states it looks at the first one.
func shortest(m api.System, s api.Spec) int {
	met := map[string]bool{}
	queue := [][]int{nil}
	for ; len(queue) > 0; queue = queue[1:] {
		if len(misfits(m, s, queue[0])) > 0 {
			return len(queue[0])
		}
		place := fmt.Sprint(reached(m, queue[0]), after(s, queue[0]))
		if met[place] {
			continue
		}
		met[place] = true
		for action := range m.Actions {
			queue = append(queue, append(slices.Clone(queue[0]), action))
		}
	}
	return -1
}

// checkVerdict compares the verdict of Satisfies with the definitions, and
// reports whether the system satisfies the specification.
func checkVerdict(t *testing.T, m api.System, s api.Spec) bool {
	t.Helper()
	what := show(m, " and ", s)
	v, e := spec.Satisfies(m, s)
	want := satisfies(m, s)
	switch {
	case e != api.OK || v.Holds != want:
		t.Errorf("%s: Holds = %v, %d, want %v", what, v.Holds, e, want)
	case want && (!slices.Equal(v.Pairs, leastPairs(m, s)) || len(v.Word) != 0 || v.State != 0):
		t.Errorf("%s: %v, want %v alone", what, v, leastPairs(m, s))
	case !want && (len(v.Word) != shortest(m, s) || !slices.Contains(misfits(m, s, v.Word), v.State) || len(v.Pairs) != 0):
		t.Errorf("%s: %v, want a fault of length %d alone", what, v, shortest(m, s))
	}
	if is, e := spec.Right(m, s, v); !is || e != api.OK {
		t.Errorf("%s: Right = %v %d of %v", what, is, e, v)
	}
	return want
}

func TestSatisfiesOfExamples(t *testing.T) {
	loops := run("system a b;0: a 0 a 1 b 0;1:")
	for _, c := range []struct {
		m    api.System
		s    api.Spec
		want spec.Verdict
	}{
		{tea(), may(), spec.Verdict{Holds: true, Pairs: [][2]int{{0, 0}, {1, 1}}}},
		{run("system coin tea;0: coin 1;1:"), may(), spec.Verdict{Holds: true, Pairs: [][2]int{{0, 0}, {1, 1}}}},
		{run("system coin tea;0:"), may(), spec.Verdict{}},
		{run("system coin tea;0: tea 0"), may(), spec.Verdict{}},
		{run("system coin tea;0: coin 0"), may(), spec.Verdict{Word: []int{0}}},
		{run("system coin tea;0: coin 1;1: coin 0 tea 0"), may(), spec.Verdict{Word: []int{0}, State: 1}},
		{run("system coin tea;0: coin 1;1: tea 2;2:"), may(), spec.Verdict{Word: []int{0, 1}, State: 2}},
		{run("system;0:"), build("", at(sets(0))), spec.Verdict{Holds: true, Pairs: [][2]int{{0, 0}}}},
		{run("system;0:"), build("", at(nil)), spec.Verdict{}},
		{run("system;0:"), build("", at(nil), at(sets(0))), spec.Verdict{}},
		// The order is that of the numbers, not that in which pairs are met.
		{run("system a b;0: a 2 b 1;1:;2: a 1"), of("spec a b;0: {a,b} -> a 2 b 1;1: {} ->;2: {a} -> a 1"), spec.Verdict{Holds: true, Pairs: [][2]int{{0, 0}, {1, 1}, {2, 2}}}},
		{run("system a;0: a 0"), of("spec a;0: {a} -> a 2;1: {a} -> a 0;2: {a} -> a 1"), spec.Verdict{Holds: true, Pairs: [][2]int{{0, 0}, {0, 1}, {0, 2}}}},
		{run("system a;0: a 2;1: a 0;2: a 1"), of("spec a;0: {a} -> a 0"), spec.Verdict{Holds: true, Pairs: [][2]int{{0, 0}, {1, 0}, {2, 0}}}},
		// What cannot be reached does not matter.
		{run("system a;0: a 0;1:"), of("spec a;0: {a} -> a 0;1: ->"), spec.Verdict{Holds: true, Pairs: [][2]int{{0, 0}}}},
		// One of several edges with an action shows the fault.
		{loops, of("spec a b;0: {a,b} -> a 0 b 0"), spec.Verdict{Word: []int{0}, State: 1}},
		{loops, of("spec a b;0: {a,b} -> a 1 b 0;1: {} {a,b} -> a 1 b 1"), spec.Verdict{Holds: true, Pairs: [][2]int{{0, 0}, {0, 1}, {1, 1}}}},
		// An action that leads to a state, but is in no set, is not allowed.
		{run("system a;0: a 0"), of("spec a;0: {} -> a 0"), spec.Verdict{}},
	} {
		v, e := spec.Satisfies(c.m, c.s)
		if fmt.Sprint(v) != fmt.Sprint(c.want) || e != api.OK {
			t.Errorf("Satisfies(%s) = %v %d, want %v", show(c.m, c.s), v, e, c.want)
		}
		checkVerdict(t, c.m, c.s)
	}
}

// TestSatisfiesTakesAShortestFault has a long fault that is found by the first
// edges, and a short one.
func TestSatisfiesTakesAShortestFault(t *testing.T) {
	m := run("system a b;0: a 1 b 3;1: a 2;2: a 4;3: b 4;4:")
	s := of("spec a b;0: {a,b} -> a 1 b 1;1: {a} {b} -> a 1 b 1")
	v, e := spec.Satisfies(m, s)
	if v.Holds || !slices.Equal(v.Word, []int{1, 1}) || v.State != 4 || e != api.OK {
		t.Errorf("Satisfies = %v %d, want the word [1 1] to 4", v, e)
	}
}

// smallSystems returns all systems with one action and at most two states.
func smallSystems() []api.System {
	l := []api.System{run("system a;0:"), run("system a;0: a 0")}
	for choice := range 1 << 4 {
		m := api.System{Actions: []string{"a"}, States: make([][]api.Edge, 2)}
		for bit := range 4 {
			if choice>>bit%2 == 1 {
				m.States[bit/2] = append(m.States[bit/2], api.Edge{To: bit % 2})
			}
		}
		l = append(l, m)
	}
	return l
}

// smallSpecs returns all specifications with one action and at most two
// states.
func smallSpecs() []api.Spec {
	var l []api.Spec
	for count := 1; count <= 2; count++ {
		var states []api.State
		for to := -1; to < count; to++ {
			for choice := range 4 {
				var accept []int
				for set := range 2 {
					if choice>>set%2 == 1 && (set == 0 || to >= 0) {
						accept = append(accept, set)
					}
				}
				states = append(states, at(accept, to))
			}
		}
		for _, first := range states {
			if count == 1 {
				l = append(l, build("a", first))
				continue
			}
			for _, second := range states {
				l = append(l, build("a", first, second))
			}
		}
	}
	return l
}

func TestSatisfiesOfSmallSpecifications(t *testing.T) {
	for _, m := range smallSystems() {
		for _, s := range smallSpecs() {
			checkVerdict(t, m, s)
		}
	}
}

func TestSatisfiesOfRandomSpecifications(t *testing.T) {
	r := source()
	holds, faults := 0, map[int]int{}
	for range 4000 {
		actions := []int{1, 2, 2, 3}[r.IntN(4)]
		m := randomSystem(r, actions, 1+r.IntN(5), 1+r.IntN(6))
		s := random(r, actions, 1+r.IntN(4), 2+r.IntN(40))
		if checkVerdict(t, m, s) {
			holds++
		} else {
			faults[shortest(m, s)]++
		}
	}
	if holds < 500 || faults[0] < 100 || faults[1] < 100 || faults[2] < 50 || faults[3] < 10 {
		t.Errorf("verdicts are too much alike: %d hold, %v do not", holds, faults)
	}
}

// right fails the test unless Right answers as expected.
func right(t *testing.T, m api.System, s api.Spec, v spec.Verdict, want bool) {
	t.Helper()
	if is, e := spec.Right(m, s, v); is != want || e != api.OK {
		t.Errorf("%s: Right of %s = %v %d, want %v", show(m, " and ", s), show(v), is, e, want)
	}
}

func TestRightOfOtherFields(t *testing.T) {
	m, s := tea(), may()
	pairs := [][2]int{{0, 0}, {1, 1}}
	right(t, m, s, spec.Verdict{Holds: true, Pairs: pairs}, true)
	right(t, m, s, spec.Verdict{Holds: true, Pairs: pairs, Word: []int{}}, true)
	right(t, m, s, spec.Verdict{Holds: true, Pairs: pairs, Word: []int{0}}, false)
	right(t, m, s, spec.Verdict{Holds: true, Pairs: pairs, State: 1}, false)
	right(t, m, s, spec.Verdict{Holds: true, Pairs: pairs, State: -1}, false)
	right(t, m, s, spec.Verdict{Pairs: pairs}, false)
	right(t, m, s, spec.Verdict{}, false)
	right(t, m, s, spec.Verdict{Holds: true}, false)
	m = run("system coin tea;0: coin 1;1: coin 0")
	right(t, m, s, spec.Verdict{Word: []int{0}, State: 1}, true)
	right(t, m, s, spec.Verdict{Word: []int{0}, State: 1, Pairs: [][2]int{}}, true)
	right(t, m, s, spec.Verdict{Word: []int{0}, State: 1, Pairs: [][2]int{{0, 0}}}, false)
	right(t, m, s, spec.Verdict{Word: []int{0}, State: 1, Holds: true}, false)
	right(t, m, s, spec.Verdict{Word: []int{0}, State: 1, Holds: true, Pairs: pairs}, false)
}

func TestRightOfMalformedParts(t *testing.T) {
	m, s := tea(), may()
	for _, off := range []int{-1, 2, 8, math.MaxInt, math.MinInt} {
		right(t, m, s, spec.Verdict{Holds: true, Pairs: [][2]int{{0, 0}, {1, 1}, {off, 0}}}, false)
		right(t, m, s, spec.Verdict{Holds: true, Pairs: [][2]int{{0, off}, {0, 0}, {1, 1}}}, false)
		right(t, m, s, spec.Verdict{Holds: true, Pairs: [][2]int{{off, off}}}, false)
	}
	// More states than the specification has, and the other way round.
	right(t, ringSystem(3, 1), ring(1), spec.Verdict{Holds: true, Pairs: [][2]int{{0, 0}, {1, 0}, {2, 0}}}, true)
	right(t, ringSystem(3, 1), ring(1), spec.Verdict{Holds: true, Pairs: [][2]int{{0, 0}, {1, 0}, {2, 0}, {0, 1}}}, false)
	right(t, ringSystem(1, 1), ring(3), spec.Verdict{Holds: true, Pairs: [][2]int{{0, 0}, {0, 1}, {0, 2}}}, true)
	right(t, ringSystem(1, 1), ring(3), spec.Verdict{Holds: true, Pairs: [][2]int{{0, 0}, {0, 1}, {0, 2}, {1, 0}}}, false)
	m = run("system coin tea;0: coin 1;1:")
	s = of("spec coin tea;0: {coin} -> coin 0 tea 0")
	right(t, m, s, spec.Verdict{Word: []int{0}, State: 1}, true)
	for _, off := range []int{-1, 2, 5000, math.MaxInt, math.MinInt} {
		right(t, m, s, spec.Verdict{Word: []int{0}, State: off}, false)
		right(t, m, s, spec.Verdict{Word: []int{off}, State: 1}, false)
		right(t, m, s, spec.Verdict{Word: []int{0, off}, State: 1}, false)
		right(t, m, s, spec.Verdict{Word: []int{off, 0}, State: 1}, false)
		right(t, m, s, spec.Verdict{State: off}, false)
	}
}

// words returns all lists of at most so many numbers of actions.
func words(actions, length int) [][]int {
	l := [][]int{nil}
	for i := 0; i < len(l); i++ {
		for action := range actions {
			if len(l[i]) < length {
				l = append(l, append(slices.Clone(l[i]), action))
			}
		}
	}
	return l
}

func TestRightOfAllFaults(t *testing.T) {
	r := source()
	var counts [6]int // of the faults of each length
	for range 400 {
		m := randomSystem(r, 2, 2+r.IntN(4), 2+r.IntN(4))
		s := random(r, 2, 2+r.IntN(3), 6+r.IntN(20))
		for _, word := range words(2, 5) {
			fault := isFault(m, s, word)
			shown := misfits(m, s, word)
			for state := -1; state <= len(m.States); state++ {
				want := fault && slices.Contains(shown, state)
				right(t, m, s, spec.Verdict{Word: word, State: state}, want)
				if want {
					counts[len(word)]++
				}
			}
		}
	}
	if slices.Min(counts[:]) < 20 {
		t.Errorf("few faults of some lengths: %v", counts)
	}
}

func TestRightOfFaults(t *testing.T) {
	// After a, state 1 shows a fault; after a a, state 3 would.
	m := run("system a b;0: a 1 a 2;1:;2: a 3;3: b 3")
	s := of("spec a b;0: {a} -> a 0")
	right(t, m, s, spec.Verdict{Word: []int{0}, State: 1}, true)
	right(t, m, s, spec.Verdict{Word: []int{0}, State: 2}, false)
	right(t, m, s, spec.Verdict{Word: []int{0, 0}, State: 3}, false)
	// There is no state of the specification after a b, nor one after b.
	right(t, m, s, spec.Verdict{Word: []int{0, 0, 1}, State: 3}, false)
	right(t, m, s, spec.Verdict{Word: []int{1}, State: 3}, false)
	// The word leads to no state, or not to this one.
	right(t, m, s, spec.Verdict{Word: []int{0, 1}}, false)
	right(t, m, s, spec.Verdict{Word: []int{0}, State: 3}, false)
	// It need not be a shortest one.
	m, s = run("system a b;0: a 1 b 0;1: a 2;2:"), of("spec a b;0: {a} {a,b} -> a 0 b 0")
	for i := range 20 {
		word := append(slices.Repeat([]int{1}, i), 0, 0)
		right(t, m, s, spec.Verdict{Word: word, State: 2}, true)
		right(t, m, s, spec.Verdict{Word: word[:i+1], State: 1}, false)
		right(t, m, s, spec.Verdict{Word: append(word, 0), State: 2}, false)
	}
}

// isShown reports whether pairs are a relation that shows that m satisfies s.
func isShown(m api.System, s api.Spec, pairs [][2]int) bool {
	for _, pair := range pairs {
		if !isStep(m, s, pair, func(p [2]int) bool { return slices.Contains(pairs, p) }) {
			return false
		}
	}
	return slices.Contains(pairs, [2]int{0, 0})
}

// subsets returns all lists of some of the pairs of so many states.
func subsets(n, m int) [][][2]int {
	var l [][][2]int
	for choice := range 1 << (n * m) {
		var pairs [][2]int
		for i := range n * m {
			if choice>>i%2 == 1 {
				pairs = append(pairs, [2]int{i / m, i % m})
			}
		}
		l = append(l, pairs)
	}
	return l
}

func TestRightOfAllRelations(t *testing.T) {
	r := source()
	counts := map[bool]int{}
	check := func(m api.System, s api.Spec) {
		for _, pairs := range subsets(len(m.States), len(s.States)) {
			want := isShown(m, s, pairs)
			right(t, m, s, spec.Verdict{Holds: true, Pairs: pairs}, want)
			counts[want]++
			mixed := mix(r, pairs)
			right(t, m, s, spec.Verdict{Holds: true, Pairs: mixed}, want)
		}
	}
	for _, m := range smallSystems() {
		for _, s := range smallSpecs() {
			check(m, s)
		}
	}
	for range 200 {
		check(randomSystem(r, 2, 1+r.IntN(3), 1+r.IntN(3)), random(r, 2, 1+r.IntN(3), 5+r.IntN(40)))
	}
	if counts[true] < 1000 {
		t.Errorf("only %d relations", counts[true])
	}
}

// mix returns the pairs in another order, with repetitions.
func mix(r *rand.Rand, pairs [][2]int) [][2]int {
	mixed := slices.Clone(pairs)
	for range len(pairs) {
		mixed = append(mixed, pairs[r.IntN(len(pairs))])
	}
	r.Shuffle(len(mixed), func(i, j int) { mixed[i], mixed[j] = mixed[j], mixed[i] })
	return mixed
}

// longFault returns a ring and a specification in a ring: the last state of
// the one offers what only the last state of the other one does not accept.
func longFault(states, numbers int) (api.System, api.Spec) {
	m := ringSystem(states, 1)
	m.Actions = []string{"a", "b"}
	m.States[states-1] = []api.Edge{{Action: 0, To: 0}, {Action: 1, To: 0}}
	s := build("a b")
	for number := range numbers {
		next := (number + 1) % numbers
		s.States = append(s.States, at(sets(1, 3), next, next))
	}
	s.States[numbers-1].Accept = sets(1)
	return m, s
}

func TestFaultsOfAnyLength(t *testing.T) {
	for _, c := range [][2]int{{2, 3}, {7, 10}, {101, 100}, {api.MaxNodes - 1, api.MaxStates}} {
		m, s := longFault(c[0], c[1])
		v, e := spec.Satisfies(m, s)
		if v.Holds || len(v.Pairs) != 0 || len(v.Word) != c[0]*c[1]-1 || v.State != c[0]-1 || e != api.OK {
			t.Errorf("%v: Holds = %v, %d pairs, a word of %d to %d, %d", c, v.Holds, len(v.Pairs), len(v.Word), v.State, e)
		}
		right(t, m, s, v, true)
		right(t, m, s, spec.Verdict{Word: append([]int{0}, v.Word...), State: v.State}, false)
		right(t, m, s, spec.Verdict{Word: v.Word[1:], State: v.State}, false)
	}
}

func TestWordsLongerThanOthers(t *testing.T) {
	s := of("spec a b;0: {a,b} -> a 0 b 0")
	for _, m := range []api.System{
		run("system a b;0: a 0 b 1;1:"),
		// There are more ways for each word than could be counted.
		run("system a b;0: a 0 a 2 b 1;1:;2: a 0 a 2 b 1"),
	} {
		for _, length := range []int{api.MaxWord - 1, api.MaxWord, api.MaxWord + 1, 1 << 20} {
			word := append(make([]int, length), 1)
			right(t, m, s, spec.Verdict{Word: word, State: 1}, true)
			right(t, m, s, spec.Verdict{Word: word, State: 0}, false)
			right(t, m, s, spec.Verdict{Word: word[:length]}, false)
			right(t, m, s, spec.Verdict{Word: append(word, 0), State: 1}, false)
		}
	}
}

func TestSatisfiesAtTheLimits(t *testing.T) {
	m, s := ringSystem(api.MaxNodes, api.MaxEdges/api.MaxNodes), ring(api.MaxStates)
	v, e := spec.Satisfies(m, s)
	if !v.Holds || len(v.Pairs) != api.MaxNodes*api.MaxStates || e != api.OK {
		t.Fatalf("Holds = %v, %d pairs, %d", v.Holds, len(v.Pairs), e)
	}
	for i, pair := range v.Pairs {
		if pair != [2]int{i / api.MaxStates, i % api.MaxStates} {
			t.Fatalf("pair %d is %v", i, pair)
		}
	}
	right(t, m, s, v, true)
	right(t, m, s, spec.Verdict{Holds: true, Pairs: v.Pairs[:len(v.Pairs)-1]}, false)
	right(t, m, s, spec.Verdict{Holds: true, Pairs: v.Pairs[1:]}, false)
}

// P3.8: systems that behave alike satisfy the same specifications.

// blown returns a system that behaves like m: each state has several copies,
// and an edge leads to some of those of its target, at least one.
func blown(r *rand.Rand, m api.System, copies int) api.System {
	n := api.System{Actions: m.Actions}
	for state := range len(m.States) * copies {
		var edges []api.Edge
		for _, e := range m.States[state/copies] {
			sure := r.IntN(copies)
			for i := range copies {
				if i == sure || r.IntN(2) == 0 {
					edges = append(edges, api.Edge{Action: e.Action, To: e.To*copies + i})
				}
			}
		}
		n.States = append(n.States, edges)
	}
	return n
}

func TestSystemsThatBehaveAlike(t *testing.T) {
	r := source()
	counts := map[bool]int{}
	for range 1000 {
		actions := 1 + r.IntN(3)
		m := randomSystem(r, actions, 1+r.IntN(5), 1+r.IntN(6))
		s := random(r, actions, 1+r.IntN(4), 2+r.IntN(40))
		v, _ := spec.Satisfies(m, s)
		least, _, _ := system.Least(m)
		for _, n := range []api.System{blown(r, m, 1+r.IntN(3)), least} {
			w, e := spec.Satisfies(n, s)
			if is, _ := system.Alike(m, n); !is || w.Holds != v.Holds || len(w.Word) != len(v.Word) || e != api.OK {
				t.Errorf("%s: %v %d of one that behaves alike, %v", show(m, n, s), w, e, v)
			}
		}
		counts[v.Holds]++
	}
	if counts[true] < 100 || counts[false] < 100 {
		t.Errorf("verdicts are too much alike: %v", counts)
	}
}
