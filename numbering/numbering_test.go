package numbering_test

import (
	"slices"
	"testing"

	"makeweight/numbering"
)

func TestNumber(t *testing.T) {
	l := numbering.Of[[2]int]()
	for _, c := range []struct {
		value [2]int
		want  int
	}{
		{[2]int{3, 1}, 0}, {[2]int{1, 3}, 1}, {[2]int{3, 1}, 0}, {[2]int{}, 2}, {[2]int{-1, 0}, 3}, {[2]int{}, 2}, {[2]int{1, 3}, 1},
	} {
		if got := l.Number(c.value); got != c.want {
			t.Errorf("Number(%v) = %d, want %d", c.value, got, c.want)
		}
	}
	if want := [][2]int{{3, 1}, {1, 3}, {}, {-1, 0}}; !slices.Equal(l.Values, want) {
		t.Errorf("values %v, want %v", l.Values, want)
	}
}

func TestOf(t *testing.T) {
	for _, c := range []struct{ values, want []string }{
		{nil, nil}, {[]string{""}, []string{""}}, {[]string{"b", "a", "b", "c", "a"}, []string{"b", "a", "c"}},
	} {
		before := slices.Clone(c.values)
		l := numbering.Of(c.values...)
		if !slices.Equal(l.Values, c.want) {
			t.Errorf("Of(%q) has %q, want %q", c.values, l.Values, c.want)
		}
		if got := l.Number("new"); got != len(c.want) || l.Values[got] != "new" || !slices.Equal(c.values, before) {
			t.Errorf("a new value of %q: %d in %q", c.values, got, l.Values)
		}
	}
}

// TestValuesThatComeWhileOthersAreLookedAt is how lists are used: values that
// are found at others come behind them.
func TestValuesThatComeWhileOthersAreLookedAt(t *testing.T) {
	l := numbering.Of(1)
	for i := 0; i < len(l.Values); i++ {
		l.Number(l.Values[i] * 3 % 7)
	}
	if want := []int{1, 3, 2, 6, 4, 5}; !slices.Equal(l.Values, want) {
		t.Errorf("values %v, want %v", l.Values, want)
	}
}
