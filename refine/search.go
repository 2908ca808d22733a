package refine

import (
	"cmp"
	"iter"
	"slices"

	"makeweight/api"
	"makeweight/steps"
)

// A pair is the states to which a word leads: x of s, y of t. That of the empty
// word is the zero value.
type pair struct {
	x, y int
}

// An arrival is how a pair was met first: from an earlier one by an action.
type arrival struct {
	from   pair
	action int
}

// A loss is a set that some system that satisfies s offers after a word, and no
// system that satisfies t.
type loss struct {
	word []int
	set  int
}

// A comparison holds what a ladder leaves of s against t.
type comparison struct {
	s, t api.Spec
}

// above returns the comparison without what a ladder of s excludes.
func (q question) above(ladder []int) comparison {
	left := api.Spec{Actions: q.s.Actions, States: steps.Without(q.s.States, ladder)}
	return comparison{left, q.t}
}

// search looks at the pairs to which words lead, in the order of the lengths of
// the words, until one of them loses a set. It returns the pairs that were met,
// or the loss, and true.
func (c comparison) search() (map[pair]arrival, loss, bool) {
	met := map[pair]arrival{{}: {}}
	queue := []pair{{}}
	for i := 0; i < len(queue); i++ {
		now := queue[i]
		if set, is := c.lost(now); is {
			return nil, loss{wordTo(now, met), set}, true
		}
		for action, next := range c.links(now) {
			if _, known := met[next]; !known {
				met[next] = arrival{now, action}
				queue = append(queue, next)
			}
		}
	}
	return met, loss{}, false
}

// lost returns the first set that the one state of a pair accepts, and the
// other one does not, and true; false if there is none.
func (c comparison) lost(p pair) (int, bool) {
	others := c.t.States[p.y].Accept
	for _, set := range c.s.States[p.x].Accept {
		for len(others) > 0 && others[0] < set {
			others = others[1:]
		}
		if len(others) == 0 || others[0] != set {
			return set, true
		}
	}
	return 0, false
}

// links yields the actions in the sets of a pair that loses none, and the pairs
// to which they lead.
func (c comparison) links(p pair) iter.Seq2[int, pair] {
	return func(yield func(int, pair) bool) {
		for action, to := range c.s.States[p.x].Next {
			if to != steps.Nowhere && !yield(action, pair{to, c.t.States[p.y].Next[action]}) {
				return
			}
		}
	}
}

// wordTo returns the word with which a pair was met.
func wordTo(p pair, met map[pair]arrival) []int {
	var word []int
	for p != (pair{}) {
		word = append(word, met[p].action)
		p = met[p].from
	}
	slices.Reverse(word)
	return word
}

// sorted returns the pairs that were met in lexicographic order.
func sorted(met map[pair]arrival) [][2]int {
	var pairs [][2]int
	for p := range met {
		pairs = append(pairs, [2]int{p.x, p.y})
	}
	slices.SortFunc(pairs, func(p, q [2]int) int { return cmp.Or(cmp.Compare(p[0], q[0]), cmp.Compare(p[1], q[1])) })
	return pairs
}
