package refine_test

import (
	"fmt"
	"math"
	"math/rand/v2"
	"slices"
	"testing"

	"makeweight/api"
	"makeweight/refine"
)

// P5.1: IsProof and Right.

// offs are numbers that are not those of states of small specifications.
func offs() []int {
	return []int{-1, -2, 4, 5, api.MaxStates, 1 << 40, math.MaxInt, math.MinInt}
}

// lossy is a couple in which s loses the set {a,b} of state 0 through its hollow
// state 1, and the set {b} of state 2. State 3 is hollow, but not met.
func lossy() couple {
	return couple{
		of("spec a b;0: {a} {a,b} -> a 2 b 1;1: {b} -> b 3;2: {a} {b} -> a 0 b 1;3: ->"),
		of("spec a b;0: {a} -> a 1;1: {} {a} -> a 0;2: {b} -> b 2"),
	}
}

func TestProofsWithPairs(t *testing.T) {
	c := lossy()
	ladder, needed := []int{3, 1}, pairs([2]int{0, 0}, [2]int{2, 1})
	for why, l := range map[string][][2]int{
		"as needed": needed, "turned": {{2, 1}, {0, 0}}, "repeated": {{0, 0}, {2, 1}, {0, 0}, {2, 1}, {2, 1}},
		"one more that is closed": {{0, 1}, {2, 0}, {0, 0}, {2, 1}}, "one of them turned": {{2, 0}, {2, 1}, {0, 0}, {0, 1}},
	} {
		proves(t, why, c, refine.Proof{Ladder: ladder, Pairs: l}, true)
	}
	for why, l := range map[string][][2]int{
		"none": nil, "the first one alone": {{0, 0}}, "not the first one": {{2, 1}}, "only others": {{0, 1}, {2, 0}}, "one more that is not closed": {{0, 0}, {2, 1}, {0, 1}},
		"one more that loses a set": {{0, 0}, {2, 1}, {2, 2}}, "that first": {{2, 2}, {0, 0}, {2, 1}}, "one more of the ladder": {{0, 0}, {2, 1}, {1, 0}},
		"another one of it": {{3, 2}, {0, 0}, {2, 1}}, "turned pairs": {{0, 0}, {1, 2}},
	} {
		proves(t, why, c, refine.Proof{Ladder: ladder, Pairs: l}, false)
	}
	for _, off := range offs() {
		for place := range len(needed) + 1 {
			for _, pair := range [][2]int{{off, 0}, {off, 1}, {off, off}, {0, off}, {2, off}} {
				proves(t, "no states", c, refine.Proof{Ladder: ladder, Pairs: slices.Insert(slices.Clone(needed), place, pair)}, false)
			}
		}
	}
	// Each has a state that the other one has not.
	for _, pair := range [][2]int{{0, 3}, {2, 3}, {4, 0}} {
		proves(t, "no state of one", c, refine.Proof{Ladder: ladder, Pairs: append(slices.Clone(needed), pair)}, false)
	}
	three := couple{of("spec a;0: {a} -> a 0"), ring(3)}
	proves(t, "fewer states in s", three, refine.Proof{Pairs: pairs([2]int{0, 0}, [2]int{0, 1}, [2]int{0, 2})}, true)
	proves(t, "fewer states in s, one off", three, refine.Proof{Pairs: pairs([2]int{0, 0}, [2]int{0, 1}, [2]int{0, 2}, [2]int{1, 0})}, false)
	three = couple{three.t, three.s}
	proves(t, "fewer states in t", three, refine.Proof{Pairs: pairs([2]int{0, 0}, [2]int{1, 0}, [2]int{2, 0})}, true)
	proves(t, "fewer states in t, one off", three, refine.Proof{Pairs: pairs([2]int{0, 0}, [2]int{1, 0}, [2]int{2, 0}, [2]int{0, 1})}, false)
}

func TestProofsWithLadders(t *testing.T) {
	c := lossy()
	needed := pairs([2]int{0, 0}, [2]int{2, 1})
	proves(t, "all hollow states", c, refine.Proof{Ladder: []int{3, 1}, Pairs: needed}, true)
	for why, ladder := range map[string][]int{
		"none": nil, "too short, the set is not lost": {3}, "turned": {1, 3}, "without what it needs": {1}, "repeated": {3, 1, 1}, "repeated later": {3, 1, 3}, "one that is not hollow": {3, 1, 2},
		"it alone": {2},
	} {
		proves(t, why, c, refine.Proof{Ladder: ladder, Pairs: needed}, false)
	}
	for _, off := range offs() {
		for place := range 3 {
			proves(t, "no state", c, refine.Proof{Ladder: slices.Insert([]int{3, 1}, place, off), Pairs: needed}, false)
		}
	}
	// Both orders are ladders.
	both := couple{of("spec a b;0: {} {a} {b} -> a 1 b 2;1: ->;2: ->"), of("spec a b;0: {} ->")}
	proves(t, "in order", both, refine.Proof{Ladder: []int{1, 2}, Pairs: pairs([2]int{0, 0})}, true)
	proves(t, "turned", both, refine.Proof{Ladder: []int{2, 1}, Pairs: pairs([2]int{0, 0})}, true)
	proves(t, "one of both", both, refine.Proof{Ladder: []int{2}, Pairs: pairs([2]int{0, 0})}, false)
	// A hollow state need not be in the ladder if the pairs do without.
	free := couple{of("spec a b;0: {} {a} -> a 1;1: {b} -> b 2;2: ->"), of("spec a b;0: {} {a} -> a 1;1: {b} -> b 0")}
	for why, p := range map[string]refine.Proof{
		"the whole ladder": {Ladder: []int{2, 1}, Pairs: pairs([2]int{0, 0})}, "a part": {Ladder: []int{2}, Pairs: pairs([2]int{0, 0}, [2]int{1, 1})},
		"no ladder": {Pairs: pairs([2]int{0, 0}, [2]int{1, 1}, [2]int{2, 0})},
	} {
		proves(t, why, free, p, true)
	}
	for why, p := range map[string]refine.Proof{
		"a pair is missing": {Ladder: []int{2}, Pairs: pairs([2]int{0, 0})}, "a pair is missing without a ladder": {Pairs: pairs([2]int{0, 0}, [2]int{1, 1})},
		"a pair of the ladder": {Ladder: []int{2, 1}, Pairs: pairs([2]int{0, 0}, [2]int{1, 1})}, "another one of it": {Ladder: []int{2}, Pairs: pairs([2]int{0, 0}, [2]int{1, 1}, [2]int{2, 0})},
	} {
		proves(t, why, free, p, false)
	}
}

func TestProofsOfHollowSpecifications(t *testing.T) {
	s := of("spec a;0: {a} -> a 1;1: ->;2: {a} -> a 0")
	for _, text := range []string{"spec a;0: ->", "spec a;0: {} ->", "spec a;0: {a} -> a 0"} {
		c := couple{s, of(text)}
		for why, ladder := range map[string][]int{"with state 0": {1, 0}, "with all": {1, 0, 2}} {
			proves(t, why, c, refine.Proof{Ladder: ladder}, true)
			proves(t, why+", empty pairs", c, refine.Proof{Ladder: ladder, Pairs: [][2]int{}}, true)
			for _, l := range [][][2]int{{{0, 0}}, {{1, 0}}, {{2, 0}}, {{0, 0}, {1, 0}}, {{-1, 0}}, {{0, 5}}} {
				proves(t, why+", beside pairs", c, refine.Proof{Ladder: ladder, Pairs: l}, false)
			}
		}
		for why, ladder := range map[string][]int{"turned": {0, 1}, "without state 0": {1}, "state 0 alone": {0}, "none": nil, "repeated": {1, 0, 0}, "no state": {1, 0, 3}, "no state before": {-1, 1, 0}} {
			proves(t, why, c, refine.Proof{Ladder: ladder}, false)
		}
	}
	// Also pairs can show it, with a t that allows what s does in vain.
	proves(t, "pairs", couple{s, of("spec a;0: {a} -> a 0")}, refine.Proof{Pairs: pairs([2]int{0, 0}, [2]int{1, 0})}, true)
	proves(t, "pairs with a ladder", couple{s, of("spec a;0: {a} -> a 0")}, refine.Proof{Ladder: []int{1}, Pairs: pairs([2]int{0, 0})}, true)
	proves(t, "pairs with another t", couple{s, of("spec a;0: {} ->")}, refine.Proof{Ladder: []int{1}, Pairs: pairs([2]int{0, 0})}, true)
	proves(t, "pairs of the ladder", couple{s, of("spec a;0: {a} -> a 0")}, refine.Proof{Ladder: []int{1}, Pairs: pairs([2]int{0, 0}, [2]int{1, 0})}, false)
	// A hollow t has no part in it.
	none := couple{of("spec a;0: {a} -> a 0"), of("spec a;0: {a} -> a 1;1: ->")}
	proves(t, "a ladder of t", none, refine.Proof{Ladder: []int{1, 0}}, false)
	proves(t, "pairs with a hollow t", none, refine.Proof{Pairs: pairs([2]int{0, 0}, [2]int{0, 1})}, false)
	proves(t, "the first pair with a hollow t", none, refine.Proof{Pairs: pairs([2]int{0, 0})}, false)
}

// TestProofsOfRandomSpecifications holds IsProof against the definition, with
// changed proofs.
func TestProofsOfRandomSpecifications(t *testing.T) {
	r := source()
	good, bad := 0, 0
	for _, c := range couples() {
		v, _ := refine.Refines(c.s, c.t)
		for range 20 {
			p := changed(r, c, v.Proof)
			want := isProof(c.s, c.t, p)
			proves(t, "changed", c, p, want)
			right(t, "changed", c, refine.Verdict{Holds: true, Proof: p}, want)
			if want {
				good++
			} else {
				bad++
			}
		}
	}
	if good < 3000 || bad < 3000 {
		t.Errorf("only %d changed proofs are right, and %d wrong", good, bad)
	}
}

// changed returns a proof with some other pairs and another ladder.
func changed(r *rand.Rand, c couple, p refine.Proof) refine.Proof {
	p = refine.Proof{Ladder: slices.Clone(p.Ladder), Pairs: slices.Clone(p.Pairs)}
	if r.IntN(3) == 0 && len(p.Ladder) > 0 {
		p.Ladder = p.Ladder[:r.IntN(len(p.Ladder))]
	}
	if r.IntN(5) == 0 && len(p.Ladder) > 1 {
		i, j := r.IntN(len(p.Ladder)), r.IntN(len(p.Ladder))
		p.Ladder[i], p.Ladder[j] = p.Ladder[j], p.Ladder[i]
	}
	if r.IntN(5) == 0 && len(p.Pairs) > 0 {
		place := r.IntN(len(p.Pairs))
		p.Pairs = slices.Delete(p.Pairs, place, place+1)
	}
	for r.IntN(2) == 0 {
		p.Pairs = append(p.Pairs, [2]int{r.IntN(len(c.s.States)), r.IntN(len(c.t.States))})
	}
	r.Shuffle(len(p.Pairs), func(i, j int) { p.Pairs[i], p.Pairs[j] = p.Pairs[j], p.Pairs[i] })
	return p
}

// TestAllSmallProofs tries all sets of pairs and all short ladders.
func TestAllSmallProofs(t *testing.T) {
	r := source()
	good, withLadder := 0, 0
	for range 200 {
		u := random(r, 2, 2, 6)
		c := couple{within(r, u, 3, 3), u}
		var all [][2]int
		for number := range 6 {
			all = append(all, [2]int{number / 2, number % 2})
		}
		for choice := range 1 << len(all) {
			var l [][2]int
			for i, pair := range all {
				if has(choice, i) {
					l = append(l, pair)
				}
			}
			for _, ladder := range ladders() {
				p := refine.Proof{Ladder: ladder, Pairs: l}
				want := isProof(c.s, c.t, p)
				proves(t, "all", c, p, want)
				if want {
					good++
				}
				if want && len(ladder) > 0 && len(l) > 0 {
					withLadder++
				}
			}
		}
	}
	if good < 1000 || withLadder < 100 {
		t.Errorf("only %d proofs, %d with a ladder and pairs", good, withLadder)
	}
}

// ladders returns the lists of at most two states of three, and some of three.
func ladders() [][]int {
	l := [][]int{nil, {0, 1, 2}, {1, 2, 0}, {2, 1, 0}}
	for first := range 3 {
		l = append(l, []int{first})
		for second := range 3 {
			l = append(l, []int{first, second})
		}
	}
	return l
}

func TestRightOfOtherFields(t *testing.T) {
	c := lossy()
	v, _ := refine.Refines(c.s, c.t)
	right(t, "as it is", c, v, true)
	m := run("system a b;0: a 0")
	for why, w := range map[string]api.System{
		"a witness": m, "actions of a witness": {Actions: []string{"a", "b"}}, "an action": {Actions: []string{""}}, "states of a witness": {States: [][]api.Edge{nil}}, "states alone": {States: m.States},
	} {
		right(t, why+" beside a proof", c, refine.Verdict{Holds: true, Proof: v.Proof, Witness: w}, false)
	}
	right(t, "an empty witness beside a proof", c, refine.Verdict{Holds: true, Proof: v.Proof, Witness: api.System{Actions: []string{}, States: [][]api.Edge{}}}, true)
	right(t, "a proof that is said not to hold", c, refine.Verdict{Proof: v.Proof}, false)
	right(t, "no proof", c, refine.Verdict{Holds: true}, false)
	right(t, "nothing", c, refine.Verdict{}, false)

	c = couple{of(may), of(always)}
	v, _ = refine.Refines(c.s, c.t)
	right(t, "as it is", c, v, true)
	for why, p := range map[string]refine.Proof{
		"a ladder": {Ladder: []int{0}}, "pairs": {Pairs: pairs([2]int{0, 0})}, "no states": {Pairs: pairs([2]int{-1, 7})}, "no state": {Ladder: []int{-1}},
		"both": {Ladder: []int{1}, Pairs: pairs([2]int{0, 0}, [2]int{1, 1})},
	} {
		right(t, why+" beside a witness", c, refine.Verdict{Witness: v.Witness, Proof: p}, false)
	}
	right(t, "an empty proof beside a witness", c, refine.Verdict{Witness: v.Witness, Proof: refine.Proof{Ladder: []int{}, Pairs: [][2]int{}}}, true)
	right(t, "a witness that is said to hold", c, refine.Verdict{Holds: true, Witness: v.Witness}, false)
	right(t, "nothing", c, refine.Verdict{}, false)
}

func TestRightOfWitnesses(t *testing.T) {
	c := couple{of(may), of(always)}
	for _, text := range []string{"0: coin 1;1:", "0: coin 1 coin 2;1: tea 0;2:", "0: coin 1;1: tea 2;2: coin 3;3:", "0: coin 1;1:;2: tea 2"} {
		right(t, "a witness", c, refine.Verdict{Witness: run("system coin tea;" + text)}, true)
	}
	for why, text := range map[string]string{
		"it satisfies both": "0: coin 1;1: tea 0", "it satisfies neither": "0:", "neither later": "0: coin 1;1: coin 0", "neither by one of two edges": "0: coin 1 coin 2;1:;2: coin 0",
		"what shows it cannot be reached": "0: coin 1;1: tea 0;2: coin 3;3:",
	} {
		right(t, why, c, refine.Verdict{Witness: run("system coin tea;" + text)}, false)
	}
	right(t, "it satisfies t alone", couple{of(always), of(may)}, refine.Verdict{Witness: run("system coin tea;0: coin 1;1:")}, false)
	right(t, "s refines t", couple{of(always), of(may)}, refine.Verdict{Witness: run("system coin tea;0: coin 1;1: tea 0")}, false)
	for why, names := range map[string][]string{
		"other actions": {"coin", "milk"}, "turned ones": {"tea", "coin"}, "one more": {"coin", "tea", "milk"}, "one less": {"coin"}, "none": nil, "other letters": {"coin", "Tea"},
	} {
		right(t, why, c, refine.Verdict{Witness: api.System{Actions: names, States: [][]api.Edge{{{To: 1}}, nil}}}, false)
	}
	names := []string{"coin", "tea"}
	for why, states := range map[string][][]api.Edge{
		"no states": nil, "an edge to no state": {{{To: 2}}, nil}, "an edge to a negative state": {{{To: 1}}, {{Action: 1, To: -1}}}, "an edge twice": {{{To: 1}, {To: 1}}, nil},
		"edges turned": {{{To: 1}, {To: 0}}, nil}, "an edge with no action": {{{To: 1}}, {{Action: 2}}}, "one with a negative action": {{{Action: -1, To: 1}, {To: 1}}, nil},
		"a state that cannot be reached is bad": {{{To: 1}}, nil, {{To: 3}}}, "too many states": append([][]api.Edge{{{To: 1}}}, make([][]api.Edge, api.MaxNodes)...),
	} {
		right(t, why, c, refine.Verdict{Witness: api.System{Actions: names, States: states}}, false)
	}
	most := append([][]api.Edge{{{To: 1}}}, make([][]api.Edge, api.MaxNodes-1)...)
	right(t, "as many states as there may be", c, refine.Verdict{Witness: api.System{Actions: names, States: most}}, true)
}

// TestRightOfRandomVerdicts gives the verdicts on some couples to other ones.
func TestRightOfRandomVerdicts(t *testing.T) {
	r := source()
	l := couples()
	good, bad := 0, 0
	for i := range 4000 {
		c := l[r.IntN(len(l))]
		other := l[max(0, i%len(l)-r.IntN(8))]
		v, _ := refine.Refines(other.s, other.t)
		if slices.Equal(c.s.Actions, other.s.Actions) {
			want := isProof(c.s, c.t, v.Proof)
			if !v.Holds {
				want = satisfies(t, v.Witness, c.s) && !satisfies(t, v.Witness, c.t)
			}
			right(t, "of others", c, v, want)
			if want {
				good++
			} else {
				bad++
			}
		} else if !v.Holds {
			right(t, "a witness with other actions", c, v, false)
		}
	}
	if good < 100 || bad < 500 {
		t.Errorf("only %d are right, and %d wrong", good, bad)
	}
}

// P5.3 (W1): what a proof shows.

// TestProofsMeanThatSystemsSatisfy looks at systems that do all that s allows,
// and at others, for all that IsProof calls a proof.
func TestProofsMeanThatSystemsSatisfy(t *testing.T) {
	r := source()
	found := 0
	for _, c := range couples() {
		v, _ := refine.Refines(c.s, c.t)
		for range 5 {
			p := changed(r, c, v.Proof)
			if is, _ := refine.IsProof(c.s, c.t, p); !is {
				continue
			}
			for _, m := range append(freest(c.s), near(r, c.s), near(r, c.s)) {
				if satisfies(t, m, c.s) {
					found++
					if !satisfies(t, m, c.t) {
						t.Errorf("%s: %s shows that %s is no proof", show(c), show(m), show(p))
					}
				}
			}
		}
	}
	if found < 5000 {
		t.Errorf("only %d systems", found)
	}
}

// near returns a system most of whose states do what the states of s allow, and
// that may have several edges with an action.
func near(r *rand.Rand, s api.Spec) api.System {
	const copies = 3
	hollow := hollowOf(s)
	m := api.System{Actions: slices.Clone(s.Actions)}
	for number := range copies * len(s.States) {
		set := 0
		if accept := keeping(s, number/copies, hollow); len(accept) > 0 {
			set = accept[r.IntN(len(accept))]
		}
		var edges []api.Edge
		for action, to := range s.States[number/copies].Next {
			first := r.IntN(copies)
			for i := range copies {
				if has(set, action) && (i == first || r.IntN(3) == 0) {
					edges = append(edges, api.Edge{Action: action, To: copies*to + i})
				}
			}
		}
		m.States = append(m.States, edges)
	}
	return m
}

// TestWitnessesAreSmall: a system that shows what happens after a short word
// need not have states for all that is allowed elsewhere.
func TestWitnessesAreSmall(t *testing.T) {
	v, _ := refine.Refines(of(may), of(always))
	if want := run("system coin tea;0: coin 1;1:"); fmt.Sprint(v.Witness) != fmt.Sprint(want) {
		t.Errorf("the witness is %s, want %s", show(v.Witness), show(want))
	}
}
