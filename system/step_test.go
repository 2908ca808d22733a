package system_test

import (
	"math"
	"math/rand/v2"
	"slices"
	"testing"

	"makeweight/api"
	"makeweight/system"
)

// noStates are numbers that are not those of one of n states.
func noStates(n int) []int {
	return []int{-1, -2, n, n + 1, math.MaxInt, math.MinInt}
}

// P2.3: Offer and After.

func TestOfferOfExamples(t *testing.T) {
	for _, c := range []struct {
		m           api.System
		state, want int
	}{
		{tea(), 0, 1}, {tea(), 1, 2}, {stop(), 1, 0}, {build("", nil), 0, 0},
		{build("a b c", row(0, 0, 0, 1, 2, 0), row(1, 0, 1, 1)), 0, 5}, {build("a b c", row(0, 0), row(1, 0, 1, 1)), 1, 2},
		{build(letters, row(0, 0, 1, 0, 2, 0, 3, 0, 4, 0, 5, 0, 6, 0, 7, 0)), 0, 255}, {build(letters, row(7, 0)), 0, 128},
		{build("a", nil, row(0, 0)), 1, 1},
	} {
		if set, e := system.Offer(c.m, c.state); set != c.want || e != api.OK {
			t.Errorf("Offer(%s, %d) = %d %d, want %d", show(c.m), c.state, set, e, c.want)
		}
	}
}

func TestOfferOfAllStates(t *testing.T) {
	for _, m := range systems() {
		for state, edges := range m.States {
			want := 0
			for action := range m.Actions {
				if slices.ContainsFunc(edges, func(e api.Edge) bool { return e.Action == action }) {
					want += 1 << action
				}
			}
			if set, e := system.Offer(m, state); set != want || e != api.OK {
				t.Errorf("Offer(%s, %d) = %d %d, want %d", show(m), state, set, e, want)
			}
		}
	}
}

func TestOfferRefusesOtherNumbers(t *testing.T) {
	for _, m := range systems() {
		for _, state := range noStates(len(m.States)) {
			if set, e := system.Offer(m, state); set != 0 || e != api.ErrArg {
				t.Errorf("Offer(%s, %d) = %d %d, want ErrArg", show(m), state, set, e)
			}
		}
	}
}

func TestAfterOfExamples(t *testing.T) {
	many := build("a b", row(0, 1, 0, 2), row(0, 2, 1, 0), row(0, 1, 1, 2), nil)
	for _, c := range []struct {
		m          api.System
		word, want []int
	}{
		{tea(), nil, []int{0}}, {tea(), []int{0}, []int{1}}, {tea(), []int{0, 1}, []int{0}}, {tea(), []int{1}, nil},
		{tea(), []int{0, 0}, nil}, {tea(), []int{0, 0, 1}, nil}, {stop(), []int{0, 1}, nil}, {stop(), []int{0}, []int{1}},
		{build("", nil), nil, []int{0}}, {build("a", nil, nil), nil, []int{0}},
		{many, nil, []int{0}}, {many, []int{0}, []int{1, 2}}, {many, []int{0, 0}, []int{1, 2}}, {many, []int{0, 1}, []int{0, 2}},
		{many, []int{0, 1, 1}, []int{2}}, {many, []int{0, 1, 0}, []int{1, 2}}, {many, []int{1}, nil},
		// State 2 is found ahead of state 1, and each only once.
		{build("a", row(0, 1, 0, 2), row(0, 2), row(0, 1)), []int{0, 0}, []int{1, 2}},
		{build("a", row(0, 1, 0, 2), row(0, 3), row(0, 3), nil), []int{0, 0}, []int{3}},
		{full(3), []int{0, 0, 0, 0}, []int{0, 1, 2}},
		{ring(5), []int{0, 0, 0, 0, 0, 0, 0}, []int{2}},
	} {
		if l, e := system.After(c.m, c.word); !slices.Equal(l, c.want) || e != api.OK {
			t.Errorf("After(%s, %v) = %v %d, want %v", show(c.m), c.word, l, e, c.want)
		}
	}
}

// after is After, by the definition: state by state, from the end of the word.
func after(m api.System, word []int) []int {
	now := map[int]bool{0: true}
	for _, action := range word {
		next := map[int]bool{}
		for state := range now {
			for _, e := range m.States[state] {
				if e.Action == action {
					next[e.To] = true
				}
			}
		}
		now = next
	}
	var l []int
	for state := range m.States {
		if now[state] {
			l = append(l, state)
		}
	}
	return l
}

func randomWord(r *rand.Rand, actions, length int) []int {
	var word []int
	for range length {
		if actions > 0 {
			word = append(word, r.IntN(actions))
		}
	}
	return word
}

func TestAfterOfRandomWords(t *testing.T) {
	r := source()
	for _, m := range systems() {
		for length := range 12 {
			word := randomWord(r, len(m.Actions), length)
			if l, e := system.After(m, word); !slices.Equal(l, after(m, word)) || e != api.OK {
				t.Errorf("After(%s, %v) = %v %d, want %v", show(m), word, l, e, after(m, word))
			}
		}
	}
}

func TestAfterOfTheLongestWord(t *testing.T) {
	longest := make([]int, api.MaxWord)
	for _, states := range []int{1, 7, 3000, api.MaxNodes} {
		if l, e := system.After(ring(states), longest); !slices.Equal(l, []int{api.MaxWord % states}) || e != api.OK {
			t.Errorf("%d states: %v %d", states, l, e)
		}
	}
	if l, e := system.After(full(50), longest); len(l) != 50 || e != api.OK {
		t.Errorf("full: %v %d", l, e)
	}
	if l, e := system.After(chain(api.MaxNodes, 2), longest); len(l) != 0 || e != api.OK {
		t.Errorf("chain: %v %d", l, e)
	}
	if l, e := system.After(chain(api.MaxNodes, 1), longest[:api.MaxNodes-1]); !slices.Equal(l, []int{api.MaxNodes - 1}) || e != api.OK {
		t.Errorf("chain to its end: %v %d", l, e)
	}
}

func TestAfterRefusesOtherWords(t *testing.T) {
	long := make([]int, api.MaxWord+1)
	huge := make([]int, 1<<22)
	for _, c := range []struct {
		m    api.System
		word []int
	}{
		{tea(), []int{-1}}, {tea(), []int{2}}, {tea(), []int{8}}, {tea(), []int{math.MaxInt}}, {tea(), []int{math.MinInt}},
		{tea(), []int{0, 1, 2}}, {tea(), []int{0, -1, 1}},
		// The word leads nowhere ahead of the wrong number.
		{tea(), []int{1, 1, 2}}, {stop(), []int{1, -1}},
		{build("", nil), []int{0}}, {build("", nil), []int{-1}},
		{ring(1), long}, {ring(1), huge}, {stop(), long}, {build("", nil), huge},
	} {
		if l, e := system.After(c.m, c.word); len(l) != 0 || e != api.ErrArg {
			t.Errorf("After(%s, %d numbers) = %v %d, want ErrArg", show(c.m), len(c.word), l, e)
		}
	}
}
