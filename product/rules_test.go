package product_test

import (
	"fmt"
	"slices"
	"testing"

	"makeweight/api"
	"makeweight/product"
)

// R5: memory.

// An input is the arguments of all functions.
type input struct {
	actions []string
	l       []api.Spec
	m       api.System
	word    []int
	set     int
}

// inputs returns arguments of many shapes, also of those with None or an error
// as a result.
func inputs() []input {
	r := source()
	var l []input
	for i, c := range couples() {
		actions := len(c[0].Actions)
		if i%2 > 0 || actions > 3 {
			continue
		}
		in := input{actions: slices.Clone(c[0].Actions), l: []api.Spec{clone(c[0]), clone(c[1]), clone(c[0])}[:2+i%4/2], m: randomSystem(r, actions, 1+r.IntN(4), 2)}
		in.m.Actions = slices.Clone(in.actions)
		task := taskOf(in.actions, in.l[:2]...)
		p := task.start()
		for range i % 3 {
			if next := actionsOf(task.offered(p)); len(next) > 0 {
				in.word = append(in.word, next[r.IntN(len(next))])
				p = task.behind(p, in.word[len(in.word)-1])
			}
		}
		if sets := task.offered(p); len(sets) > 0 {
			in.set = sets[r.IntN(len(sets))]
		}
		l = append(l, in)
	}
	return l
}

// A result is what a function returned.
type result struct {
	s    api.Spec
	m, n api.System
	e    api.Errno
}

// results calls all functions.
func results(in input) []result {
	var l []result
	add := func(s api.Spec, e api.Errno) { l = append(l, result{s: s, e: e}) }
	add(product.Compose(in.l[0], in.l[1]))
	add(product.Compose(in.l[1], in.l[1]))
	for _, some := range [][]api.Spec{in.l, nil, in.l[:1]} {
		add(product.Several(in.actions, some))
	}
	add(product.Beside(in.m, in.l[0]))
	add(product.Beside(in.m, in.l[1]))
	m, n, e := product.Parts(in.l[0], in.l[1], in.word, in.set)
	l = append(l, result{m: m, n: n, e: e})
	m, n, e = product.Parts(in.l[0], in.l[0], nil, in.set)
	return append(l, result{m: m, n: n, e: e})
}

// roomy returns a list that is equal to l, with room behind it that holds x.
func roomy[E any](l []E, x E) []E {
	return append(slices.Clone(l), x)[:len(l)]
}

// behind returns what is in the room behind a list that roomy returned.
func behind[E any](l []E) E {
	return l[:len(l)+1][len(l)]
}

func roomySpec(s api.Spec) api.Spec {
	c := api.Spec{Actions: roomy(s.Actions, "room"), States: roomy(s.States, api.State{})}
	for number, state := range c.States {
		c.States[number] = at(roomy(state.Accept, 77), roomy(state.Next, 77)...)
	}
	return c
}

func roomySystem(m api.System) api.System {
	c := api.System{Actions: roomy(m.Actions, "room"), States: roomy(m.States, nil)}
	for number, edges := range c.States {
		c.States[number] = roomy(edges, api.Edge{Action: 77})
	}
	return c
}

func roomyInput(in input) input {
	held := input{actions: roomy(in.actions, "room"), m: roomySystem(in.m), word: roomy(in.word, 77), set: in.set}
	for _, s := range in.l {
		held.l = append(held.l, roomySpec(s))
	}
	held.l = roomy(held.l, api.Spec{})
	return held
}

// isKept reports whether the rooms behind all lists of an input that roomyInput
// returned hold what they held.
func isKept(in input) bool {
	kept := behind(in.actions) == "room" && behind(in.word) == 77 && isZero(behind(in.l)) && behind(in.m.Actions) == "room" && behind(in.m.States) == nil
	for _, edges := range in.m.States {
		kept = kept && behind(edges) == api.Edge{Action: 77}
	}
	for _, s := range in.l {
		room := behind(s.States)
		kept = kept && behind(s.Actions) == "room" && len(room.Accept)+len(room.Next) == 0
		for _, state := range s.States {
			kept = kept && behind(state.Accept) == 77 && behind(state.Next) == 77
		}
	}
	return kept
}

func TestArgumentsAreNotModified(t *testing.T) {
	parts := 0
	for _, in := range inputs() {
		held := roomyInput(in)
		before := fmt.Sprint(held)
		l := results(held)
		if after := fmt.Sprint(held); after != before || after != fmt.Sprint(in) {
			t.Errorf("%s became %s", before, after)
		}
		if !isKept(held) {
			t.Errorf("%s: something was written behind a list", before)
		}
		if l[len(l)-2].e == api.OK {
			parts++
		}
	}
	if parts < 100 {
		t.Errorf("only %d have parts", parts)
	}
}

// spoil writes into all memory of a list, also into what is behind it.
func spoil[E any](l []E, x E) {
	l = l[:cap(l)]
	for i := range l {
		l[i] = x
	}
}

func spoilSpec(s api.Spec) {
	for _, state := range s.States {
		spoil(state.Accept, 55)
		spoil(state.Next, 55)
	}
	spoil(s.States, api.State{})
	spoil(s.Actions, "spoilt")
}

func spoilSystem(m api.System) {
	for _, edges := range m.States {
		spoil(edges, api.Edge{Action: 55})
	}
	spoil(m.States, nil)
	spoil(m.Actions, "spoilt")
}

func spoilInput(in input) {
	for _, s := range in.l {
		spoilSpec(s)
	}
	spoilSystem(in.m)
	spoil(in.l, api.Spec{})
	spoil(in.word, 55)
	spoil(in.actions, "spoilt")
}

// A piece is a list of a result: what it holds, and what spoils it.
type piece struct {
	text  func() string
	spoil func()
}

func pieceOf[E any](l []E, x E) piece {
	return piece{func() string { return fmt.Sprint(l) }, func() { spoil(l, x) }}
}

// pieces makes all results, and returns their lists of numbers, strings and
// edges.
func pieces(in input) []piece {
	var l []piece
	for _, r := range results(in) {
		for _, names := range [][]string{r.s.Actions, r.m.Actions, r.n.Actions} {
			l = append(l, pieceOf(names, "spoilt"))
		}
		for _, state := range r.s.States {
			l = append(l, pieceOf(state.Accept, 55), pieceOf(state.Next, 55))
		}
		for _, edges := range slices.Concat(r.m.States, r.n.States) {
			l = append(l, pieceOf(edges, api.Edge{Action: 55}))
		}
	}
	return l
}

func texts(l []piece) []string {
	var texts []string
	for _, p := range l {
		texts = append(texts, p.text())
	}
	return texts
}

// TestResultsAreNewMemory spoils each piece of the results, and finds the
// arguments, the other pieces, and later results as they were.
func TestResultsAreNewMemory(t *testing.T) {
	for _, in := range inputs()[:120] {
		before := fmt.Sprint(in)
		want := texts(pieces(in))
		for i := range want {
			l := pieces(in)
			l[i].spoil()
			got := texts(l)
			got[i] = want[i]
			if !slices.Equal(got, want) {
				t.Errorf("%s: piece %d shares memory", before, i)
			}
			if after := fmt.Sprint(in); after != before {
				t.Errorf("%s became %s with piece %d", before, after, i)
			}
		}
		if !slices.Equal(texts(pieces(in)), want) {
			t.Errorf("%s: later results are not the same", before)
		}
		l := pieces(in)
		spoilInput(in)
		if !slices.Equal(texts(l), want) {
			t.Errorf("%s: %s became %s with them", before, show(want), show(texts(l)))
		}
	}
}

// TestListsOfStatesAreNewMemory spoils those of one result after the other.
func TestListsOfStatesAreNewMemory(t *testing.T) {
	for _, in := range inputs() {
		before := fmt.Sprint(in)
		l := results(in)
		for len(l) > 0 {
			n := fmt.Sprint(l[0].n)
			want := fmt.Sprint(l[1:])
			spoil(l[0].s.States, api.State{})
			spoil(l[0].m.States, nil)
			if fmt.Sprint(l[0].n) != n {
				t.Errorf("%s: two systems share their states", before)
			}
			spoil(l[0].n.States, nil)
			l = l[1:]
			if got := fmt.Sprint(l); got != want || fmt.Sprint(in) != before {
				t.Errorf("%s: %s became %s", before, want, got)
			}
		}
	}
}

// R8: the same arguments give the same results.

func TestSameArgumentsSameResults(t *testing.T) {
	for _, in := range inputs() {
		first := fmt.Sprint(results(in))
		for range 3 {
			results(input{names(1), []api.Spec{ring(2), ring(3)}, rounds(3, 2), []int{0, 0}, 1})
			if again := fmt.Sprint(results(roomyInput(in))); again != first {
				t.Errorf("%s: %s, then %s", show(in), first, again)
			}
		}
	}
}

// R4: results next to an error are zero. (Those of each function with each error
// are in the tests of its promise.)

func TestNoResultsNextToErrors(t *testing.T) {
	refusals := 0
	for i, in := range inputs() {
		switch i % 4 {
		case 0:
			in.l[1].States = nil
		case 1:
			in.l[1].Actions = []string{"other"}
			in.l[1].States = none("x").States
		case 2:
			in.word, in.set = []int{8}, -1
		case 3:
			in.m.States = nil
		}
		for _, r := range results(in) {
			if r.e == api.OK {
				continue
			}
			refusals++
			if !isZero(r.s) || len(r.m.Actions)+len(r.m.States)+len(r.n.Actions)+len(r.n.States) > 0 {
				t.Errorf("error %d with %s", r.e, show(r))
			}
		}
	}
	if refusals < 300 {
		t.Errorf("only %d refusals", refusals)
	}
}
