package spec

import (
	"iter"
	"slices"

	"makeweight/api"
	"makeweight/system"
	"makeweight/terms"
)

// A Verdict says whether a system satisfies a specification. Pairs of states
// show that it does. Otherwise a fault, Word, shows that it does not, and a
// state of the system after it.
type Verdict struct {
	Holds bool
	Pairs [][2]int
	Word  []int
	State int
}

// Satisfies returns a right verdict: with the least relation in lexicographic
// order if m satisfies s, otherwise with a shortest fault.
func Satisfies(m api.System, s api.Spec) (Verdict, api.Errno) {
	t, e := newTrial(m, s)
	if e != api.OK {
		return Verdict{}, e
	}
	found := t.noPairs()
	found.add(pair{0, 0})
	queue := []waiting{{}}
	for i := 0; i < len(queue); i++ {
		now := queue[i].pair
		if !t.fits(now) {
			return Verdict{Word: spell(queue, i), State: now[0]}, api.OK
		}
		for _, e := range m.States[now[0]] {
			if next := t.follow(now, e); found.add(next) {
				queue = append(queue, waiting{word: word{i, e.Action}, pair: next})
			}
		}
	}
	return Verdict{Holds: true, Pairs: slices.Collect(found.all())}, api.OK
}

// Right reports whether v is a right verdict on m and s.
func Right(m api.System, s api.Spec, v Verdict) (bool, api.Errno) {
	t, e := newTrial(m, s)
	if e != api.OK {
		return false, e
	}
	if v.Holds {
		return len(v.Word) == 0 && v.State == 0 && t.isShownBy(v.Pairs), api.OK
	}
	return len(v.Pairs) == 0 && t.isFault(v.Word, v.State), api.OK
}

// A pair is a state of a system and a state of a specification.
type pair = [2]int

// A word is its last action behind the word of an earlier place in the queue.
// (Written out, the words would take far more memory than the queue.)
type word struct {
	before, last int
}

// A waiting pair is to be looked at, with the word that led to it.
type waiting struct {
	word
	pair pair
}

// spell writes out the word of a place in the queue. That of the first place
// is empty.
func spell(queue []waiting, place int) []int {
	var actions []int
	for ; place > 0; place = queue[place].before {
		actions = append(actions, queue[place].last)
	}
	slices.Reverse(actions)
	return actions
}

// A trial holds a system against a specification.
type trial struct {
	m       api.System
	s       api.Spec
	offers  []int                       // for each state of m
	accepts [][1 << api.MaxActions]bool // for each state of s and each set
}

func newTrial(m api.System, s api.Spec) (trial, api.Errno) {
	switch {
	case system.Check(m) != api.OK:
		return trial{}, api.ErrSystem
	case Check(s) != api.OK:
		return trial{}, api.ErrSpec
	case !slices.Equal(m.Actions, s.Actions):
		return trial{}, api.ErrActions
	}
	t := trial{m: m, s: s, accepts: make([][1 << api.MaxActions]bool, len(s.States))}
	for _, edges := range m.States {
		t.offers = append(t.offers, terms.Offered(edges))
	}
	for number, state := range s.States {
		for _, set := range state.Accept {
			t.accepts[number][set] = true
		}
	}
	return t, api.OK
}

// fits reports whether what the one state of a pair offers is accepted by the
// other one. If so, each action that it offers leads to a next state.
func (t trial) fits(p pair) bool {
	return t.accepts[p[1]][t.offers[p[0]]]
}

// follow returns the pair to which an edge of the one state of a pair that
// fits leads.
func (t trial) follow(p pair, e api.Edge) pair {
	return pair{e.To, t.s.States[p[1]].Next[e.Action]}
}

// isShownBy reports whether the pairs are a relation that shows that the
// system satisfies the specification.
func (t trial) isShownBy(pairs []pair) bool {
	related := t.noPairs()
	for _, p := range pairs {
		if p[0] < 0 || p[0] >= len(t.m.States) || p[1] < 0 || p[1] >= len(t.s.States) {
			return false
		}
		related.add(p)
	}
	for p := range related.all() {
		if !t.fits(p) {
			return false
		}
		for _, e := range t.m.States[p[0]] {
			if !related.has(t.follow(p, e)) {
				return false
			}
		}
	}
	return related.has(pair{0, 0})
}

// isFault reports whether the word, which may be longer than others, is a fault
// that the state shows.
func (t trial) isFault(word []int, state int) bool {
	now := crowd{states: []int{0}, marked: make([]bool, len(t.m.States))}
	at := 0
	for _, action := range word {
		if !t.allFit(now.states, at) {
			return false
		}
		now.step(t.m, action)
		// This is also so if the number is not that of an action.
		if len(now.states) == 0 {
			return false
		}
		// There is such a state, as one that fits had an edge to be followed.
		at = t.s.States[at].Next[action]
	}
	return slices.Contains(now.states, state) && !t.fits(pair{state, at})
}

func (t trial) allFit(states []int, at int) bool {
	return !slices.ContainsFunc(states, func(state int) bool { return !t.fits(pair{state, at}) })
}

// A crowd is the states in which a system may be.
type crowd struct {
	states, spare []int
	marked        []bool // is all false between two steps
}

// step replaces the states by those to which their edges with an action lead.
func (c *crowd) step(m api.System, action int) {
	next := c.spare[:0]
	for _, state := range c.states {
		for _, e := range m.States[state] {
			if e.Action == action && !c.marked[e.To] {
				c.marked[e.To] = true
				next = append(next, e.To)
			}
		}
	}
	for _, state := range next {
		c.marked[state] = false
	}
	c.states, c.spare = next, c.states
}

// A relation says of each state of a system and each one of a specification
// whether they are related.
type relation [][]bool

// noPairs returns the relation in which no states are related.
func (t trial) noPairs() relation {
	r := make(relation, len(t.m.States))
	for state := range r {
		r[state] = make([]bool, len(t.s.States))
	}
	return r
}

func (r relation) has(p pair) bool {
	return r[p[0]][p[1]]
}

// add relates a pair, and reports whether it was not related before.
func (r relation) add(p pair) bool {
	known := r[p[0]][p[1]]
	r[p[0]][p[1]] = true
	return !known
}

// all yields the related pairs in lexicographic order.
func (r relation) all() iter.Seq[pair] {
	return func(yield func(pair) bool) {
		for i, row := range r {
			for j, related := range row {
				if related && !yield(pair{i, j}) {
					return
				}
			}
		}
	}
}
