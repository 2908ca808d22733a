package refine_test

import (
	"fmt"
	"slices"
	"strings"
	"testing"

	"makeweight/api"
	"makeweight/refine"
	"makeweight/spec"
)

// calls calls all functions, and returns their results as strings, and their
// errors.
func calls(c couple, v refine.Verdict) (map[string]string, map[string]api.Errno) {
	results, errors := map[string]string{}, map[string]api.Errno{}
	add := func(name string, e api.Errno, l ...any) {
		results[name], errors[name] = fmt.Sprint(l...), e
	}
	w, e := refine.Refines(c.s, c.t)
	add("Refines", e, w)
	is, e := refine.IsProof(c.s, c.t, v.Proof)
	add("IsProof", e, is)
	is, e = refine.Right(c.s, c.t, v)
	add("Right", e, is)
	is, e = refine.Equal(c.s, c.t)
	add("Equal", e, is)
	n, is, e := refine.Depth(c.s, c.t)
	add("Depth", e, n, is)
	return results, errors
}

// zeros are the results of calls with an error, as calls returns them.
func zeros() map[string]string {
	return map[string]string{"Refines": "{false {[] []} {[] []}}", "IsProof": "false", "Right": "false", "Equal": "false", "Depth": "0 false"}
}

// refused fails the test unless all calls return an error, and zeros, whatever
// the verdict is.
func refused(t *testing.T, why string, c couple, want api.Errno) {
	t.Helper()
	m := run("system a;0:")
	for _, v := range []refine.Verdict{
		{}, {Holds: true}, {Holds: true, Proof: refine.Proof{Pairs: pairs([2]int{0, 0})}}, {Holds: true, Proof: refine.Proof{Ladder: []int{0}}}, {Witness: m}, {Holds: true, Witness: m},
		{Proof: refine.Proof{Ladder: []int{-1}, Pairs: pairs([2]int{-1, 1 << 40})}},
	} {
		results, errors := calls(c, v)
		for name, zero := range zeros() {
			if results[name] != zero || errors[name] != want {
				t.Errorf("%s: %s = %.100s %d, want %s %d", why, name, results[name], errors[name], zero, want)
			}
		}
	}
}

// P1, R1, R2 and R4: which error comes first.

func TestErrSpecFirst(t *testing.T) {
	for why, bad := range badSpecs() {
		refused(t, why+" twice", couple{bad, bad}, api.ErrSpec)
		// The other ones are valid, with the same or with other actions.
		for _, names := range []string{"", "a", "a b", "x y z", letters} {
			for _, s := range []api.Spec{all(names), none(names)} {
				refused(t, why+" first", couple{bad, s}, api.ErrSpec)
				refused(t, why+" second", couple{s, bad}, api.ErrSpec)
			}
		}
	}
	refused(t, "above the limit", couple{ring(api.MaxStates), ring(api.MaxStates + 1)}, api.ErrSpec)
	refused(t, "the other one above the limit", couple{ring(api.MaxStates + 1), ring(api.MaxStates)}, api.ErrSpec)
}

func all(names string) api.Spec {
	s, _ := spec.All(strings.Fields(names))
	return s
}

func none(names string) api.Spec {
	s, _ := spec.None(strings.Fields(names))
	return s
}

func TestErrActionsBehindThem(t *testing.T) {
	for _, names := range []string{"", "coin", "tea", "tea coin", "coin Tea", "coin tea milk", "a b"} {
		for _, s := range []api.Spec{all(names), none(names)} {
			refused(t, names, couple{s, of(may)}, api.ErrActions)
			refused(t, names, couple{of(may), s}, api.ErrActions)
			refused(t, names, couple{none("coin tea"), s}, api.ErrActions)
		}
	}
}

// R5: memory.

// roomy returns a list that is equal to l, with room behind it that holds x.
func roomy[E any](l []E, x E) []E {
	return append(slices.Clone(l), x)[:len(l)]
}

// isKept reports whether the room behind a list that roomy returned holds x.
func isKept[E comparable](l []E, x E) bool {
	return l[:len(l)+1][len(l)] == x
}

func roomySpec(s api.Spec) api.Spec {
	c := api.Spec{Actions: roomy(s.Actions, "room")}
	for _, state := range s.States {
		c.States = append(c.States, api.State{Accept: roomy(state.Accept, 77), Next: roomy(state.Next, 77)})
	}
	return c
}

func isKeptSpec(s api.Spec) bool {
	return isKept(s.Actions, "room") && !slices.ContainsFunc(s.States, func(state api.State) bool {
		return !isKept(state.Accept, 77) || !isKept(state.Next, 77)
	})
}

func roomyVerdict(v refine.Verdict) refine.Verdict {
	w := refine.Verdict{Holds: v.Holds, Witness: api.System{Actions: roomy(v.Witness.Actions, "room")}}
	w.Proof = refine.Proof{Ladder: roomy(v.Proof.Ladder, 77), Pairs: roomy(v.Proof.Pairs, [2]int{77})}
	for _, edges := range v.Witness.States {
		w.Witness.States = append(w.Witness.States, roomy(edges, api.Edge{Action: 77}))
	}
	return w
}

func isKeptVerdict(v refine.Verdict) bool {
	return isKept(v.Witness.Actions, "room") && isKept(v.Proof.Ladder, 77) && isKept(v.Proof.Pairs, [2]int{77}) &&
		!slices.ContainsFunc(v.Witness.States, func(edges []api.Edge) bool { return !isKept(edges, api.Edge{Action: 77}) })
}

func TestArgumentsAreNotModified(t *testing.T) {
	for _, c := range couples() {
		v, _ := refine.Refines(c.s, c.t)
		held, verdict := couple{roomySpec(c.s), roomySpec(c.t)}, roomyVerdict(v)
		slices.Reverse(verdict.Proof.Pairs)
		before := fmt.Sprint(held, verdict)
		calls(held, verdict)
		if after := fmt.Sprint(held, verdict); after != before {
			t.Errorf("%s became %s", before, after)
		}
		if !isKeptSpec(held.s) || !isKeptSpec(held.t) || !isKeptVerdict(verdict) {
			t.Errorf("%s: something was written behind the arguments", before)
		}
	}
}

// spoil writes into all memory of a list, also into what is behind it.
func spoil[E any](l []E, x E) {
	l = l[:cap(l)]
	for i := range l {
		l[i] = x
	}
}

func spoilSpec(s api.Spec) {
	for _, state := range s.States {
		spoil(state.Accept, 55)
		spoil(state.Next, 55)
	}
	spoil(s.States, api.State{})
	spoil(s.Actions, "spoilt")
}

// spoilers returns what spoils the parts of a verdict, one after the other.
func spoilers(v refine.Verdict) []func() {
	l := []func(){
		func() { spoil(v.Proof.Ladder, 55) }, func() { spoil(v.Proof.Pairs, [2]int{55, 55}) }, func() { spoil(v.Witness.Actions, "spoilt") },
	}
	for _, edges := range v.Witness.States {
		l = append(l, func() { spoil(edges, api.Edge{Action: 55, To: 55}) })
	}
	return append(l, func() { spoil(v.Witness.States, nil) })
}

// parts returns the parts of a verdict as strings, in the order of spoilers.
func parts(v refine.Verdict) []string {
	l := []string{fmt.Sprint(v.Proof.Ladder), fmt.Sprint(v.Proof.Pairs), fmt.Sprint(v.Witness.Actions)}
	for _, edges := range v.Witness.States {
		l = append(l, fmt.Sprint(edges))
	}
	return l
}

// TestVerdictsAreNewMemory spoils each part of a verdict, and finds the other
// parts, the arguments, and later verdicts as they were.
func TestVerdictsAreNewMemory(t *testing.T) {
	for _, c := range couples() {
		before := fmt.Sprint(c)
		v, _ := refine.Refines(c.s, c.t)
		want := parts(v)
		for i := range want {
			w, _ := refine.Refines(c.s, c.t)
			spoilers(w)[i]()
			got := parts(w)
			got[i] = want[i]
			if !slices.Equal(got, want) || !slices.Equal(parts(v), want) {
				t.Errorf("%s: part %d shares memory", before, i)
			}
		}
		for _, spoil := range spoilers(v) {
			spoil()
		}
		if after := fmt.Sprint(c); after != before {
			t.Errorf("%s became %s", before, after)
		}
		v, _ = refine.Refines(c.s, c.t)
		spoilSpec(c.s)
		spoilSpec(c.t)
		if !slices.Equal(parts(v), want) {
			t.Errorf("%s: %s became %s with them", before, want, parts(v))
		}
	}
}

// R8: the same arguments give the same results.

func TestSameArgumentsSameResults(t *testing.T) {
	for _, c := range couples() {
		v, _ := refine.Refines(c.s, c.t)
		first, errors := calls(c, v)
		for range 3 {
			calls(couple{of(may), of(always)}, refine.Verdict{})
			again, others := calls(couple{clone(c.s), clone(c.t)}, roomyVerdict(v))
			if fmt.Sprint(first, errors) != fmt.Sprint(again, others) {
				t.Errorf("%s: %s, then %s", show(c), show(first), show(again))
			}
		}
	}
}
