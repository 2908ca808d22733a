package product_test

import (
	"math"
	"slices"
	"testing"

	"makeweight/api"
	"makeweight/product"
	"makeweight/system"
)

// P8.4: Parts.

// noParts fails the test unless a result is an error without systems.
func noParts(t *testing.T, what string, m, n api.System, e, want api.Errno) {
	t.Helper()
	if e != want || len(m.Actions)+len(m.States)+len(n.Actions)+len(n.States) > 0 {
		t.Errorf("%s: %s and %s %d, want error %d", what, show(m), show(n), e, want)
	}
}

// areParts fails the test unless two systems satisfy s and u, and their product
// offers the set after the word.
func areParts(t *testing.T, m, n api.System, s, u api.Spec, word []int, set int) {
	t.Helper()
	if system.Check(m) != api.OK || system.Check(n) != api.OK || !satisfies(m, s) || !satisfies(n, u) {
		t.Errorf("%s does not satisfy %s, or %s not %s", show(m), show(s), show(n), show(u))
		return
	}
	for _, one := range offersAfter(m, word) {
		for _, other := range offersAfter(n, word) {
			if one&other == set {
				return
			}
		}
	}
	t.Errorf("%s and %s do not offer %d after %s", show(m), show(n), set, show(word))
}

// checkParts reports whether there are such systems.
func checkParts(t *testing.T, s, u api.Spec, word []int, set int) bool {
	t.Helper()
	m, n, e := product.Parts(s, u, word, set)
	if !slices.Contains(taskOf(s.Actions, s, u).offeredAfter(word), set) {
		noParts(t, show(s, " and ", u, " with ", set, " after ", word), m, n, e, api.ErrNone)
		return false
	}
	if e != api.OK {
		t.Errorf("%s and %s with %d after %s: error %d", show(s), show(u), set, show(word), e)
		return true
	}
	areParts(t, m, n, s, u, word, set)
	return true
}

func TestPartsOfExamples(t *testing.T) {
	const (
		choice = "spec a b;0: {a} {b} -> a 0 b 0"
		whole  = "spec a b;0: {} {a} {b} {a,b} -> a 0 b 0"
		both   = "spec a b;0: {a,b} -> a 0 b 0"
		turns  = "spec a b;0: {a} -> a 1;1: {b} -> b 0"
		stops  = "spec a b;0: {a} {b} -> a 1 b 0;1: {} ->"
		lost   = "spec a b;0: {b} {a,b} -> a 1 b 0;1: ->"
		no     = "spec a b;0: ->"
	)
	for _, c := range []struct {
		s, t string
		word []int
		want []int
	}{
		// The empty word.
		{choice, choice, nil, sets(0, 1, 2)}, {whole, whole, nil, sets(0, 1, 2, 3)}, {both, both, nil, sets(3)}, {both, choice, nil, sets(1, 2)}, {turns, choice, nil, sets(0, 1)}, {turns, turns, nil, sets(1)}, {lost, both, nil, sets(2)},
		{choice, choice, []int{0}, sets(0, 1, 2)}, {choice, choice, []int{0, 1, 1, 0}, sets(0, 1, 2)}, {both, both, []int{1, 0}, sets(3)},
		// Sets that are offered only after some words.
		{turns, both, []int{0}, sets(2)}, {turns, both, []int{0, 1}, sets(1)}, {turns, choice, []int{0, 1, 0}, sets(0, 2)}, {stops, both, []int{1}, sets(1, 2)}, {stops, both, []int{1, 0}, sets(0)},
		{"spec a b;0: {a} -> a 1;1: {} {a} -> a 0", "spec a b;0: {a} -> a 1;1: {a} -> a 2;2: {} {a} -> a 0", []int{0, 0}, sets(0, 1)}, {"spec a b;0: {a} -> a 1;1: {} {a} -> a 0", "spec a b;0: {a} -> a 1;1: {a} -> a 2;2: {} {a} -> a 0", []int{0, 0, 0, 0}, sets(1)},
		// Words that cannot be done by one of both, or by neither.
		{turns, both, []int{1}, nil}, {both, turns, []int{0, 0}, nil}, {stops, both, []int{0, 0}, nil}, {stops, turns, []int{0, 1}, nil}, {turns, turns, []int{1, 0}, nil}, {stops, stops, []int{1, 0, 1}, nil},
		// Words to hollow states, and with actions that are in no set.
		{lost, whole, []int{0}, nil}, {whole, lost, []int{1, 0}, nil}, {lost, whole, []int{1, 1}, sets(0, 2)}, {"spec a b;0: {a} -> a 0 b 0", both, []int{1}, nil}, {both, "spec a b;0: {a} -> a 0 b 0", []int{0, 1}, nil},
		{no, whole, nil, nil}, {whole, no, nil, nil}, {no, no, nil, nil}, {no, both, []int{0}, nil}, {"spec a b;0: {a} -> a 1;1: -> a 0 b 0", both, []int{0}, nil}, {"spec a b;0: {a} -> a 1;1: ->", both, nil, nil},
	} {
		for set := range 4 {
			for _, pair := range [][2]string{{c.s, c.t}, {c.t, c.s}} {
				if got := checkParts(t, of(pair[0]), of(pair[1]), c.word, set); got != slices.Contains(c.want, set) {
					t.Errorf("%v with %d: %v", c, set, got)
				}
			}
		}
	}
	if !checkParts(t, all(""), all(""), nil, 0) || checkParts(t, all(""), none(""), nil, 0) || checkParts(t, none(""), all(""), nil, 0) {
		t.Errorf("without actions: not as it should be")
	}
}

// TestPartsOfAllShortWords has all words of at most three actions with all sets,
// also those that are not done, or not offered.
func TestPartsOfAllShortWords(t *testing.T) {
	done, not := 0, 0
	for _, c := range couples() {
		actions := len(c[0].Actions)
		if actions > 2 {
			continue
		}
		for length := range 4 {
			for _, word := range words(actions, length) {
				for set := range 1 << actions {
					if checkParts(t, c[0], c[1], word, set) {
						done++
					} else {
						not++
					}
				}
			}
		}
	}
	if done < 1000 || not < 1000 {
		t.Errorf("only %d are done, %d are not", done, not)
	}
}

// TestPartsOfRandomWords goes along words that can be done, and sometimes one
// action further.
func TestPartsOfRandomWords(t *testing.T) {
	r := source()
	done, long := 0, 0
	for _, c := range couples() {
		task := taskOf(c[0].Actions, c[0], c[1])
		for range 4 {
			var word []int
			p := task.start()
			for range r.IntN(9) {
				actions := actionsOf(task.offered(p))
				if len(actions) == 0 {
					break
				}
				word = append(word, actions[r.IntN(len(actions))])
				p = task.behind(p, word[len(word)-1])
			}
			sets := task.offered(p)
			r.Shuffle(len(sets), func(i, j int) { sets[i], sets[j] = sets[j], sets[i] })
			for _, set := range append(sets[:min(len(sets), 4)], r.IntN(1<<len(c[0].Actions))) {
				if checkParts(t, c[0], c[1], word, set) {
					done++
					long += len(word) / 4
				}
			}
			if len(c[0].Actions) > 0 {
				checkParts(t, c[0], c[1], append(word, r.IntN(len(c[0].Actions))), 0)
			}
		}
	}
	if done < 2000 || long < 500 {
		t.Errorf("only %d are done, %d of them long", done, long)
	}
}

// TestPartsAreInTheProduct finds the set in the product itself, after the word.
func TestPartsAreInTheProduct(t *testing.T) {
	s, u := of("spec a b c;0: {a} {a,b} -> a 1 b 0;1: {b} {c} -> b 0 c 1"), of("spec a b c;0: {a,b} {a,c} -> a 0 b 1 c 0;1: {} {a,b} {a,b,c} -> a 0 b 1 c 1")
	done := 0
	for length := range 5 {
		for _, word := range words(3, length) {
			for set := range 8 {
				m, n, e := product.Parts(s, u, word, set)
				if e == api.ErrNone {
					continue
				}
				done++
				if !slices.Contains(offersAfter(multiplied(m, n), word), set) {
					t.Errorf("the product of %s and %s does not offer %d after %v", show(m), show(n), set, word)
				}
			}
		}
	}
	if done < 50 {
		t.Errorf("only %d products", done)
	}
}

// TestPartsAreWhatCompositionsShow: what the composition accepts is offered by
// products, and what products offer is accepted.
func TestPartsAreWhatCompositionsShow(t *testing.T) {
	for _, c := range small() {
		s := checkCompose(t, c[0], c[1])
		own := taskOf(s.Actions, s)
		for length := range 3 {
			for _, word := range words(len(s.Actions), length) {
				accepted := own.offeredAfter(word)
				for set := range 1 << len(s.Actions) {
					if _, _, e := product.Parts(c[0], c[1], word, set); (e == api.OK) != slices.Contains(accepted, set) {
						t.Errorf("%s offers %v after %v, but Parts with %d: error %d", show(s), accepted, word, set, e)
					}
				}
			}
		}
	}
}

// TestPartsOfLongWords has words with as many actions as there may be, and large
// specifications.
func TestPartsOfLongWords(t *testing.T) {
	s := full(letters, api.MaxStates, func(state, action int) int { return (8*state + action + 1) % api.MaxStates })
	u := full(letters, api.MaxStates-1, func(state, action int) int { return (state + 3*action + 1) % (api.MaxStates - 1) })
	word := make([]int, api.MaxWord)
	for i := range word {
		word[i] = i * i % 13 % 8
	}
	for _, set := range []int{0, 1, 77, 254, 255} {
		for _, c := range [][2]api.Spec{{s, u}, {u, s}, {s, s}} {
			m, n, e := product.Parts(c[0], c[1], word, set)
			if areParts(t, m, n, c[0], c[1], word, set); e != api.OK {
				t.Errorf("large specifications with %d: error %d", set, e)
			}
		}
	}
	zeros := make([]int, api.MaxWord)
	for _, c := range []struct {
		s, t, length int
		want         bool // whether one of both rings is at its state 0, and may stop
	}{
		{500, 499, 10000, true}, {499, 500, 10000, true}, {499, 499, 10000, false}, {16, 3, 10000, true}, {499, 7, 10000, false}, {499, 7, 499, true}, {499, 7, 7 * 71, true}, {499, 7, 498, false},
	} {
		if checkParts(t, ring(c.s), ring(c.t), zeros[:c.length], 0) != c.want || !checkParts(t, ring(c.s), ring(c.t), zeros[:c.length], 1) {
			t.Errorf("rings: %v is not so", c)
		}
	}
}

func TestPartsRefuseOtherWordsAndSets(t *testing.T) {
	for _, c := range [][2]api.Spec{{all("a b"), all("a b")}, {none("a b"), all("a b")}, {all("a b"), none("a b")}, {of("spec a b;0: {a} -> a 1 b 0;1: ->"), together("a b")}, {of("spec a b;0: {a} -> a 0"), of("spec a b;0: {b} -> b 0")}, {full("a b", 500, func(int, int) int { return 7 }), together("a b")}} {
		for _, word := range [][]int{{-1}, {2}, {0, 2}, {0, 1, 0, -1}, {1, 1, 2}, {math.MaxInt}, {math.MinInt}, make([]int, api.MaxWord+1), make([]int, 1<<20)} {
			for _, set := range []int{0, 1, 3, 4, -1} {
				m, n, e := product.Parts(c[0], c[1], word, set)
				noParts(t, "another word", m, n, e, api.ErrArg)
			}
		}
		for _, set := range []int{-1, 4, 5, 255, 256, -256, math.MaxInt, math.MinInt} {
			for _, word := range [][]int{nil, {0}, {1, 0, 1}, make([]int, api.MaxWord)} {
				m, n, e := product.Parts(c[0], c[1], word, set)
				noParts(t, "another set", m, n, e, api.ErrArg)
			}
		}
	}
	for _, s := range []api.Spec{all(""), none("")} {
		for _, word := range [][]int{{0}, {-1}, {0, 0}} {
			m, n, e := product.Parts(s, all(""), word, 0)
			noParts(t, "a word without actions", m, n, e, api.ErrArg)
		}
		m, n, e := product.Parts(all(""), s, nil, 1)
		noParts(t, "a set without actions", m, n, e, api.ErrArg)
	}
	m, n, e := product.Parts(all(letters), all(letters), []int{7}, 256)
	noParts(t, "another set of eight", m, n, e, api.ErrArg)
	m, n, e = product.Parts(all(letters), all(letters), []int{8}, 255)
	noParts(t, "another word of eight", m, n, e, api.ErrArg)
}

func TestPartsRefuseOtherSpecifications(t *testing.T) {
	check := func(what string, s, u api.Spec, want api.Errno) {
		t.Helper()
		for _, word := range [][]int{nil, {0}, {-1}, {77}, make([]int, api.MaxWord+1)} {
			for _, set := range []int{0, 1, -1, 256} {
				m, n, e := product.Parts(s, u, word, set)
				noParts(t, what, m, n, e, want)
			}
		}
	}
	for why, bad := range badSpecs() {
		for _, other := range []api.Spec{all("a"), all("a b"), none(""), bad} {
			check(why, bad, other, api.ErrSpec)
			check(why, other, bad, api.ErrSpec)
		}
	}
	for i, s := range otherwise() {
		for k, u := range otherwise() {
			if i != k {
				check("other actions", s, u, api.ErrActions)
			}
		}
	}
}
