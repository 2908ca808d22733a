package refine

import (
	"slices"

	"makeweight/api"
	"makeweight/prune"
	"makeweight/spec"
	"makeweight/steps"
)

// The kinds of verdicts.
const (
	refuted = iota
	proved
	kinds
)

func kindOf(v Verdict) int {
	if v.Holds {
		return proved
	}
	return refuted
}

// isProved reports whether a verdict has a proof, and nothing else.
func (q question) isProved(v Verdict) bool {
	return len(v.Witness.Actions) == 0 && len(v.Witness.States) == 0 && q.isProof(v.Proof)
}

// isRefuted reports whether a verdict has a system that satisfies s, and not t,
// and nothing else.
func (q question) isRefuted(v Verdict) bool {
	if len(v.Proof.Ladder) > 0 || len(v.Proof.Pairs) > 0 {
		return false
	}
	in, e := spec.Satisfies(v.Witness, q.s)
	if e != api.OK || !in.Holds {
		return false
	}
	out, _ := spec.Satisfies(v.Witness, q.t)
	return !out.Holds
}

func (q question) isProof(p Proof) bool {
	is, _ := prune.IsLadder(q.s, p.Ladder)
	if !is {
		return false
	}
	if slices.Contains(p.Ladder, 0) {
		return len(p.Pairs) == 0
	}
	met, ok := q.gather(p)
	return ok && q.above(p.Ladder).isClosed(met)
}

// gather returns the pairs of a proof with a ladder, each once; false if one of
// them is not of states, or has one of the ladder.
func (q question) gather(p Proof) (map[pair]bool, bool) {
	excluded := steps.Marks(len(q.s.States), p.Ladder)
	met := map[pair]bool{}
	for _, states := range p.Pairs {
		x, y := states[0], states[1]
		if x < 0 || x >= len(q.s.States) || y < 0 || y >= len(q.t.States) || excluded[x] {
			return nil, false
		}
		met[pair{x, y}] = true
	}
	return met, true
}

// isClosed reports whether the first pair is among some pairs, none of them
// loses a set, and they lead only to each other.
func (c comparison) isClosed(met map[pair]bool) bool {
	for p := range met {
		if _, is := c.lost(p); is {
			return false
		}
		for _, next := range c.links(p) {
			if !met[next] {
				return false
			}
		}
	}
	return met[pair{}]
}
