package spec_test

import (
	"fmt"
	"slices"
	"strings"
	"testing"

	"makeweight/api"
	"makeweight/spec"
)

// P3.5: Of, All and None.

func TestOfOfExamples(t *testing.T) {
	for text, want := range map[string]api.Spec{
		"system coin tea;0: coin 1;1: tea 0":   build("coin tea", at(sets(1), 1, -1), at(sets(2), -1, 0)),
		"system;0:":                            build("", at(sets(0))),
		"system a;0:;1: a 1":                   build("a", at(sets(0), -1), at(sets(1), 1)),
		"system a b c;0: a 1 c 0;1: a 0 b 1":   build("a b c", at(sets(5), 1, -1, 0), at(sets(3), 0, 1, -1)),
		"system a b;0: a 2 b 2;1:;2: a 1 b 0;": build("a b", at(sets(3), 2, 2), at(sets(0), -1, -1), at(sets(3), 1, 0)),
	} {
		s, is, e := spec.Of(run(text))
		same(t, text, s, want)
		if !is || e != api.OK {
			t.Errorf("Of(%q): %v %d", text, is, e)
		}
	}
}

func TestOfSeveralEdgesWithAnAction(t *testing.T) {
	for _, text := range []string{
		"system a;0: a 0 a 1;1:", "system a;0:;1: a 0 a 1", "system a b;0: a 0 b 0 b 1;1:", "system a b;0: a 0 a 1 b 0;1:",
		"system a;0: a 1 a 2;1:;2:", "system a;0:;1:;2: a 0 a 2",
	} {
		s, is, e := spec.Of(run(text))
		same(t, text, s, api.Spec{})
		if is || e != api.OK {
			t.Errorf("Of(%q): %v %d, want false", text, is, e)
		}
	}
}

func TestOfBoundsTheStates(t *testing.T) {
	for _, c := range []struct {
		states, next int
		is           bool
		want         api.Errno
	}{
		{api.MaxStates - 1, 1, true, api.OK}, {api.MaxStates, 1, true, api.OK}, {api.MaxStates + 1, 1, false, api.ErrLarge},
		{api.MaxNodes, 1, false, api.ErrLarge}, {api.MaxStates, 2, false, api.OK},
		// Two edges with one action are looked for behind that.
		{api.MaxStates + 1, 2, false, api.ErrLarge},
	} {
		s, is, e := spec.Of(ringSystem(c.states, c.next))
		if is != c.is || e != c.want {
			t.Errorf("Of of a ring of %d states: %v %d, want %v %d", c.states, is, e, c.is, c.want)
		}
		if is {
			same(t, "Of of a ring", s, ring(c.states))
		} else {
			same(t, "Of of a ring", s, api.Spec{})
		}
	}
}

// TestOfRandomSystems has states with at most one edge for each action.
func TestOfRandomSystems(t *testing.T) {
	r := source()
	for range 500 {
		m := randomSystem(r, r.IntN(5), 1+r.IntN(6), 1+r.IntN(3))
		for state, edges := range m.States {
			m.States[state] = slices.CompactFunc(edges, func(e, f api.Edge) bool { return e.Action == f.Action })
		}
		s, is, e := spec.Of(m)
		if !is || e != api.OK || len(s.States) != len(m.States) || !slices.Equal(s.Actions, m.Actions) {
			t.Fatalf("Of(%s) = %s %v %d", show(m), show(s), is, e)
		}
		valid(t, "Of", s)
		for number, state := range s.States {
			var edges []api.Edge
			for action, to := range state.Next {
				if to >= 0 {
					edges = append(edges, api.Edge{Action: action, To: to})
				}
			}
			if !slices.Equal(state.Accept, []int{offered(m, number)}) || !slices.Equal(edges, m.States[number]) {
				t.Errorf("Of(%s): state %d is %v", show(m), number, state)
			}
		}
	}
}

func TestAllAndNone(t *testing.T) {
	for _, names := range []string{"", "a", "coin tea", "x-1 x_1 X", letters} {
		actions := strings.Fields(names)
		all, nothing := at(nil), at(nil)
		for set := range 1 << len(actions) {
			all.Accept = append(all.Accept, set)
		}
		for range actions {
			all.Next, nothing.Next = append(all.Next, 0), append(nothing.Next, -1)
		}
		s, e := spec.All(actions)
		same(t, fmt.Sprintf("All(%q)", names), s, build(names, all))
		u, f := spec.None(actions)
		same(t, fmt.Sprintf("None(%q)", names), u, build(names, nothing))
		valid(t, "All", s)
		valid(t, "None", u)
		if e != api.OK || f != api.OK {
			t.Errorf("%q: All = %d, None = %d, want OK", names, e, f)
		}
	}
}

func TestAllAndNoneRefuseOtherLists(t *testing.T) {
	for _, actions := range [][]string{
		{""}, {"1"}, {"a", "a"}, {"a", "b", ""}, {"a,b"}, {"{}"}, {strings.Repeat("x", api.MaxName+1)},
		strings.Fields(letters + " i"), slices.Repeat([]string{"a"}, 1<<20),
	} {
		s, e := spec.All(actions)
		same(t, "All", s, api.Spec{})
		u, f := spec.None(actions)
		same(t, "None", u, api.Spec{})
		if e != api.ErrActions || f != api.ErrActions {
			t.Errorf("%s: All = %d, None = %d, want ErrActions", show(actions), e, f)
		}
	}
}

// P3.7: what systems satisfy.

func TestSystemsSatisfyAll(t *testing.T) {
	r := source()
	single := 0
	for range 500 {
		m := randomSystem(r, r.IntN(5), 1+r.IntN(6), 1+r.IntN(10))
		all, _ := spec.All(m.Actions)
		if v, e := spec.Satisfies(m, all); !v.Holds || e != api.OK {
			t.Errorf("%s and All: %v %d", show(m), v, e)
		}
		none, _ := spec.None(m.Actions)
		if v, e := spec.Satisfies(m, none); v.Holds || len(v.Word) != 0 || v.State != 0 || e != api.OK {
			t.Errorf("%s and None: %v %d", show(m), v, e)
		}
		of, is, _ := spec.Of(m)
		if !is {
			continue
		}
		single++
		if v, e := spec.Satisfies(m, of); !v.Holds || e != api.OK {
			t.Errorf("%s and Of: %v %d", show(m), v, e)
		}
	}
	if single < 50 {
		t.Errorf("Of of only %d systems", single)
	}
}
