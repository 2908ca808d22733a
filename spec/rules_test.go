package spec_test

import (
	"fmt"
	"slices"
	"strings"
	"testing"

	"makeweight/api"
	"makeweight/spec"
)

// calls calls all functions that take systems or specifications but Check and
// Same, and returns their results as strings, and their errors.
func calls(m api.System, s api.Spec, word []int, v spec.Verdict) (map[string]string, map[string]api.Errno) {
	results, errors := map[string]string{}, map[string]api.Errno{}
	add := func(name string, e api.Errno, l ...any) {
		results[name], errors[name] = fmt.Sprint(l...), e
	}
	text, e := spec.String(s)
	add("String", e, text)
	state, is, e := spec.After(s, word)
	add("After", e, state, is)
	w, e := spec.Satisfies(m, s)
	add("Satisfies", e, w)
	is, e = spec.Right(m, s, v)
	add("Right", e, is)
	of, is, e := spec.Of(m)
	add("Of", e, of, is)
	all, e := spec.All(m.Actions)
	add("All", e, all)
	none, e := spec.None(m.Actions)
	add("None", e, none)
	return results, errors
}

// zeros are the results of calls with an error, as calls returns them.
func zeros() map[string]string {
	return map[string]string{
		"String": "", "After": "0 false", "Satisfies": "{false [] [] 0}", "Right": "false", "Of": "{[] []} false", "All": "{[] []}", "None": "{[] []}",
	}
}

// refused fails the test unless the named calls return an error, and zeros.
func refused(t *testing.T, why string, m api.System, s api.Spec, want api.Errno, names ...string) {
	t.Helper()
	for _, v := range []spec.Verdict{{}, {Holds: true}, {Holds: true, Pairs: [][2]int{{0, 0}}}, {Word: []int{-1}, State: -1}} {
		results, errors := calls(m, s, []int{-1}, v)
		for _, name := range names {
			if results[name] != zeros()[name] || errors[name] != want {
				t.Errorf("%s: %s = %.100s %d, want %s %d", why, name, results[name], errors[name], zeros()[name], want)
			}
		}
	}
}

// P1, R1, R2 and R4: which error comes first.

func TestErrSpecFirst(t *testing.T) {
	for why, s := range badSpecs() {
		// The systems have other actions.
		for _, m := range []api.System{tea(), run("system x y z;0:")} {
			refused(t, why, m, s, api.ErrSpec, "String", "After", "Satisfies", "Right")
		}
	}
}

func TestErrSystemAheadOfErrSpec(t *testing.T) {
	for why, m := range badSystems() {
		refused(t, why, m, may(), api.ErrSystem, "Satisfies", "Right", "Of")
		for also, s := range badSpecs() {
			refused(t, why+" and "+also, m, s, api.ErrSystem, "Satisfies", "Right", "Of")
		}
	}
	// Of finds that a system is not valid ahead of all else.
	refused(t, "large and bad", ringSystem(api.MaxNodes+1, 1), may(), api.ErrSystem, "Of")
	m := ringSystem(api.MaxStates+1, 2)
	m.States[api.MaxStates][1].To = -1
	refused(t, "one edge off", m, may(), api.ErrSystem, "Of")
}

func TestErrActionsBehindThem(t *testing.T) {
	for _, names := range []string{"", "coin", "tea", "tea coin", "coin Tea", "coin tea milk", "a b"} {
		m := api.System{Actions: strings.Fields(names), States: [][]api.Edge{nil}}
		refused(t, names, m, may(), api.ErrActions, "Satisfies", "Right")
		s, _ := spec.All(m.Actions)
		refused(t, names, tea(), s, api.ErrActions, "Satisfies", "Right")
	}
}

// R5: memory.

// roomy returns a list that is equal to l, with room behind it that holds x.
func roomy[E any](l []E, x E) []E {
	return append(slices.Clone(l), x)[:len(l)]
}

// isKept reports whether the room behind a list that roomy returned holds x.
func isKept[E comparable](l []E, x E) bool {
	return l[:len(l)+1][len(l)] == x
}

func roomySpec(s api.Spec) api.Spec {
	c := api.Spec{Actions: roomy(s.Actions, "room")}
	for _, state := range s.States {
		c.States = append(c.States, api.State{Accept: roomy(state.Accept, 77), Next: roomy(state.Next, 77)})
	}
	return c
}

func TestArgumentsAreNotModified(t *testing.T) {
	r := source()
	for _, s := range specs() {
		m := randomSystem(r, len(s.Actions), 1+r.IntN(5), 1+r.IntN(5))
		v, _ := spec.Satisfies(m, s)
		word := randomWord(r, len(s.Actions), 5)
		held := roomySpec(s)
		n := api.System{Actions: roomy(m.Actions, "room")}
		for _, edges := range m.States {
			n.States = append(n.States, roomy(edges, api.Edge{Action: 77}))
		}
		w := spec.Verdict{Holds: v.Holds, Pairs: roomy(v.Pairs, [2]int{77}), Word: roomy(v.Word, 77), State: v.State}
		list := roomy(word, 77)
		spec.Check(held)
		spec.Same(held, s)
		calls(n, held, list, w)
		same(t, "the specification", held, s)
		if fmt.Sprint(n) != fmt.Sprint(m) || fmt.Sprint(w) != fmt.Sprint(v) || !slices.Equal(list, word) {
			t.Errorf("%s: arguments became %s", show(m, s, v, word), show(n, w, list))
		}
		kept := isKept(held.Actions, "room") && isKept(n.Actions, "room") && isKept(w.Pairs, [2]int{77}) && isKept(w.Word, 77) && isKept(list, 77)
		for _, state := range held.States {
			kept = kept && isKept(state.Accept, 77) && isKept(state.Next, 77)
		}
		for _, edges := range n.States {
			kept = kept && isKept(edges, api.Edge{Action: 77})
		}
		if !kept {
			t.Errorf("%s: something was written behind the arguments", show(m, s))
		}
	}
}

// spoil writes into all memory of a list, also into what is behind it.
func spoil[E any](l []E, x E) {
	l = l[:cap(l)]
	for i := range l {
		l[i] = x
	}
}

func spoilSpec(s api.Spec) {
	for _, state := range s.States {
		spoil(state.Accept, 55)
		spoil(state.Next, 55)
	}
	spoil(s.States, api.State{})
	spoil(s.Actions, "spoilt")
}

// made returns what the functions that return specifications make of a system
// without two edges with the same action, and of its string.
func made(m api.System) []api.Spec {
	of, _, _ := spec.Of(m)
	all, _ := spec.All(m.Actions)
	none, _ := spec.None(m.Actions)
	text, _ := spec.String(of)
	parsed, _ := spec.Parse(text)
	return []api.Spec{of, all, none, parsed}
}

// singles returns systems without two edges with the same action.
func singles() []api.System {
	l := []api.System{tea(), run("system;0:"), run("system a;0:;1:"), run("system " + letters + ";0: a 0 h 1;1: b 0"), ringSystem(40, 1)}
	return append(l, run("system x y z;0: x 1 y 2 z 0;1: y 1;2: x 0 z 1"))
}

// TestResultsAreNewMemory spoils each result, and finds the arguments and the
// results of the same and of other calls as they were.
func TestResultsAreNewMemory(t *testing.T) {
	for _, m := range singles() {
		n := cloneSystem(m)
		l := made(m)
		want := fmt.Sprint(l)
		for i := range l {
			spoilSpec(l[i])
			if fmt.Sprint(m) != fmt.Sprint(n) {
				t.Fatalf("%s became %s", show(n), show(m))
			}
			again := made(m)
			if fmt.Sprint(again) != want {
				t.Fatalf("%s: %s, then %s", show(m), want, show(again))
			}
			l[i] = again[i]
			if fmt.Sprint(l) != want {
				t.Fatalf("%s: results share memory", show(m))
			}
		}
	}
}

// TestRowsShareNoMemory writes behind each list of a result, and finds the
// other ones as they were.
func TestRowsShareNoMemory(t *testing.T) {
	for _, m := range singles() {
		for _, s := range made(m) {
			saved := clone(s)
			for _, state := range s.States {
				_ = append(state.Accept, 55)
				_ = append(state.Next, 55)
			}
			_ = append(s.Actions, "spoilt")
			same(t, show(m), s, saved)
		}
	}
}

func TestArgumentsAreNotKept(t *testing.T) {
	for _, m := range singles() {
		l := made(m)
		want := fmt.Sprint(l)
		for _, edges := range m.States {
			spoil(edges, api.Edge{Action: 55, To: 55})
		}
		spoil(m.Actions, "spoilt")
		if fmt.Sprint(l) != want {
			t.Errorf("%s became %s", want, show(l))
		}
	}
}

func TestVerdictsAreNewMemory(t *testing.T) {
	r := source()
	for _, s := range specs() {
		m := randomSystem(r, len(s.Actions), 1+r.IntN(5), 1+r.IntN(5))
		n, u := cloneSystem(m), clone(s)
		v, _ := spec.Satisfies(m, s)
		want := fmt.Sprint(v)
		spoil(v.Pairs, [2]int{55, 55})
		spoil(v.Word, 55)
		same(t, "the specification", s, u)
		if fmt.Sprint(m) != fmt.Sprint(n) {
			t.Errorf("%s became %s", show(n), show(m))
		}
		if v, _ = spec.Satisfies(m, s); fmt.Sprint(v) != want {
			t.Errorf("%s: %s, then %s", show(m, s), want, show(v))
		}
		spoilSpec(s)
		if fmt.Sprint(v) != want {
			t.Errorf("%s became %s when the specification did", want, show(v))
		}
	}
}

// R8: the same arguments give the same results.

func TestSameArgumentsSameResults(t *testing.T) {
	r := source()
	for _, s := range specs() {
		m := randomSystem(r, len(s.Actions), 1+r.IntN(5), 1+r.IntN(5))
		word := randomWord(r, len(s.Actions), 4)
		first, errors := calls(m, s, word, spec.Verdict{})
		for range 3 {
			calls(tea(), may(), []int{0}, spec.Verdict{})
			again, others := calls(cloneSystem(m), clone(s), slices.Clone(word), spec.Verdict{})
			if fmt.Sprint(first, errors) != fmt.Sprint(again, others) {
				t.Errorf("%s: %s, then %s", show(m, s), show(first), show(again))
			}
		}
	}
}
