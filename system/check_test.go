package system_test

import (
	"slices"
	"strings"
	"testing"

	"makeweight/api"
	"makeweight/system"
)

// P2.1: Check and Same.

func TestCheckAcceptsSystems(t *testing.T) {
	for _, m := range systems() {
		if e := system.Check(m); e != api.OK {
			t.Errorf("Check(%s) = %d, want OK", show(m), e)
		}
	}
}

func TestCheckAcceptsTheLargestSystems(t *testing.T) {
	for what, m := range map[string]api.System{
		"most states":          build("a", make([][]api.Edge, api.MaxNodes)...),
		"edge to the last":     ring(api.MaxNodes),
		"most edges":           edgesOf(api.MaxEdges),
		"most of both":         edgesOfRing(api.MaxNodes, api.MaxEdges/api.MaxNodes),
		"most actions":         build(letters, row(0, 0, 1, 0, 2, 0, 3, 0, 4, 0, 5, 0, 6, 0, 7, 0)),
		"longest name":         build(strings.Repeat("x", api.MaxName), row(0, 0)),
		"same action, targets": build("a b", row(0, 0, 0, 1, 1, 0, 1, 1), nil),
	} {
		if e := system.Check(m); e != api.OK {
			t.Errorf("%s: Check = %d, want OK", what, e)
		}
	}
}

// edgesOfRing returns a ring with edges to so many of the next states.
func edgesOfRing(states, next int) api.System {
	m := build("a")
	for state := range states {
		var edges []api.Edge
		for i := range next {
			edges = append(edges, api.Edge{To: (state + i + 1) % states})
		}
		slices.SortFunc(edges, func(e, f api.Edge) int { return e.To - f.To })
		m.States = append(m.States, edges)
	}
	return m
}

func TestCheckRefusesOtherSystems(t *testing.T) {
	for why, m := range badSystems() {
		if e := system.Check(m); e != api.ErrSystem {
			t.Errorf("%s: Check = %d, want ErrSystem", why, e)
		}
	}
}

func TestCheckLooksAtUnreachedStates(t *testing.T) {
	for _, edges := range [][]api.Edge{row(0, 3), row(1, 0), row(0, 1, 0, 0), row(0, 2, 0, 2)} {
		if e := system.Check(build("a", nil, nil, edges)); e != api.ErrSystem {
			t.Errorf("last state %v: Check = %d, want ErrSystem", edges, e)
		}
	}
}

func TestSameOfEqualSystems(t *testing.T) {
	for _, m := range systems() {
		if !system.Same(m, clone(m)) {
			t.Errorf("%s is not the same as its clone", show(m))
		}
	}
	for why, m := range badSystems() {
		if !system.Same(m, clone(m)) {
			t.Errorf("%s: not the same as its clone", why)
		}
	}
}

func TestSameTakesNilForEmpty(t *testing.T) {
	m := api.System{Actions: []string{}, States: [][]api.Edge{{}, nil}}
	n := api.System{States: [][]api.Edge{nil, {}}}
	if !system.Same(m, n) || !system.Same(n, m) {
		t.Error("empty slices differ from nil ones")
	}
	if !system.Same(api.System{}, api.System{Actions: []string{}, States: [][]api.Edge{}}) {
		t.Error("systems of nothing differ")
	}
}

func TestSameOfOtherSystems(t *testing.T) {
	m := build("coin tea", row(0, 1, 1, 0), row(1, 0))
	for why, n := range map[string]api.System{
		"nothing":           {},
		"other name":        build("coin Tea", row(0, 1, 1, 0), row(1, 0)),
		"other order":       build("tea coin", row(0, 1, 1, 0), row(1, 0)),
		"more actions":      build("coin tea milk", row(0, 1, 1, 0), row(1, 0)),
		"fewer actions":     build("coin", row(0, 1, 1, 0), row(1, 0)),
		"more states":       build("coin tea", row(0, 1, 1, 0), row(1, 0), nil),
		"fewer states":      build("coin tea", row(0, 1, 1, 0)),
		"states swapped":    build("coin tea", row(1, 0), row(0, 1, 1, 0)),
		"other action":      build("coin tea", row(0, 1, 1, 0), row(0, 0)),
		"other target":      build("coin tea", row(0, 1, 1, 0), row(1, 1)),
		"more edges":        build("coin tea", row(0, 1, 1, 0), row(1, 0, 1, 1)),
		"fewer edges":       build("coin tea", row(0, 1), row(1, 0)),
		"edges in disorder": build("coin tea", row(1, 0, 0, 1), row(1, 0)),
		"no edges":          build("coin tea", nil, nil),
	} {
		if system.Same(m, n) || system.Same(n, m) {
			t.Errorf("%s: the same", why)
		}
	}
	// Systems that behave alike are not the same for that.
	if system.Same(tea(), long()) {
		t.Error("tea and long are the same")
	}
}
