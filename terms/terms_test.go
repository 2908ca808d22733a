package terms_test

import (
	"math"
	"slices"
	"strconv"
	"strings"
	"testing"

	"makeweight/api"
	"makeweight/terms"
)

func TestIsWord(t *testing.T) {
	for _, c := range []struct {
		word    []int
		actions int
		want    bool
	}{
		{nil, 0, true}, {nil, 8, true}, {[]int{0}, 1, true}, {[]int{7, 0, 7}, 8, true}, {make([]int, api.MaxWord), 1, true},
		{[]int{0}, 0, false}, {[]int{1}, 1, false}, {[]int{0, -1, 0}, 2, false}, {[]int{0, 0, 2}, 2, false},
		{[]int{math.MaxInt}, 8, false}, {[]int{math.MinInt}, 8, false}, {make([]int, api.MaxWord+1), 1, false},
	} {
		if got := terms.IsWord(c.word, c.actions); got != c.want {
			t.Errorf("IsWord(%d numbers, %d) = %v", len(c.word), c.actions, got)
		}
	}
}

func TestIsSet(t *testing.T) {
	for _, c := range []struct {
		set, actions int
		want         bool
	}{
		{0, 0, true}, {0, 8, true}, {1, 1, true}, {3, 2, true}, {255, 8, true},
		{1, 0, false}, {2, 1, false}, {4, 2, false}, {256, 8, false}, {-1, 8, false}, {-1, 0, false}, {math.MaxInt, 8, false}, {math.MinInt, 8, false},
	} {
		if got := terms.IsSet(c.set, c.actions); got != c.want {
			t.Errorf("IsSet(%d, %d) = %v", c.set, c.actions, got)
		}
	}
}

func TestOffered(t *testing.T) {
	for _, c := range []struct {
		edges []api.Edge
		want  int
	}{
		{nil, 0}, {[]api.Edge{{Action: 0, To: 5}}, 1}, {[]api.Edge{{Action: 1, To: 0}, {Action: 1, To: 3}}, 2},
		{[]api.Edge{{Action: 0, To: 0}, {Action: 2, To: 0}, {Action: 7, To: 0}}, 133},
	} {
		if got := terms.Offered(c.edges); got != c.want {
			t.Errorf("Offered(%v) = %d, want %d", c.edges, got, c.want)
		}
	}
}

func TestParseNumber(t *testing.T) {
	for s, want := range map[string]int{
		"0": 0, "7": 7, "10": 10, "5000": 5000, strconv.Itoa(math.MaxInt): math.MaxInt, "9223372036854775808": math.MaxInt,
		"18446744073709551616": math.MaxInt, "1" + strings.Repeat("0", 30000): math.MaxInt,
	} {
		if n, ok := terms.ParseNumber(s); n != want || !ok {
			t.Errorf("ParseNumber(%.40q) = %d %v, want %d", s, n, ok, want)
		}
	}
	for _, s := range []string{"", " ", "-", "-1", "-0", "+1", "00", "01", "1 ", " 1", "1x", "x", "0x1", "1_0", "1.0", "\u0661", "1\n"} {
		if n, ok := terms.ParseNumber(s); n != 0 || ok {
			t.Errorf("ParseNumber(%q) = %d %v, want 0 false", s, n, ok)
		}
	}
}

// lengths is a kind of object whose states are numbers of words.
func lengths(_, words []string) (int, bool) {
	return len(words), !slices.Contains(words, "bad")
}

func TestText(t *testing.T) {
	for _, c := range []struct {
		text    string
		actions []string
		states  []int
	}{
		{"kind\n", nil, nil}, {"kind a\n0:\n", []string{"a"}, []int{0}}, {"kind kind\n0: x\n", []string{"kind"}, []int{1}},
		{"kind a b c d e f g h\n0:\n1: x x x\n2: x\n", strings.Fields("a b c d e f g h"), []int{0, 3, 1}},
		{"kind b-1 A c_\n0:\n1:\n2:\n3:\n4:\n5:\n6:\n7:\n8:\n9:\n10: x\n", []string{"b-1", "A", "c_"}, []int{0, 0, 0, 0, 0, 0, 0, 0, 0, 0, 1}},
	} {
		if got := terms.Text("kind", c.actions, c.states, func(n int) string { return strings.Repeat(" x", n) }); got != c.text {
			t.Errorf("Text = %q, want %q", got, c.text)
		}
		for _, text := range []string{c.text, strings.TrimSuffix(c.text, "\n")} {
			actions, states, e := terms.ParseText("kind", text, lengths)
			if !slices.Equal(actions, c.actions) || !slices.Equal(states, c.states) || e != api.OK {
				t.Errorf("ParseText(%q) = %q %v %d", text, actions, states, e)
			}
		}
	}
}

func TestParseTextOfOtherStrings(t *testing.T) {
	for _, text := range []string{
		"", " ", "kin", "kinda", "Kind", "a", "kind ", "kind  a", "kind a ", " kind", "kind a a", "kind 1", "kind a b c d e f g h i",
		"kind a\n1:", "kind a\n0", "kind a\n0:x", "kind a\n00:", "kind a\n 0:", "kind a\n\n", "kind a\n0:\n0:", "kind a\n0:\n2:", "kind a\n0:\n\n1:",
		"kind a\n0: bad", "kind a\n0:\n1: x bad", "kind a\n0: bad\n1: x",
	} {
		actions, states, e := terms.ParseText("kind", text, lengths)
		if len(actions) != 0 || len(states) != 0 || e != api.ErrText {
			t.Errorf("ParseText(%q) = %q %v %d, want ErrText", text, actions, states, e)
		}
	}
	long := "kind a\n0: " + strings.Repeat("x", api.MaxText)
	if _, _, e := terms.ParseText("kind", long[:api.MaxText], lengths); e != api.OK {
		t.Errorf("ParseText of MaxText bytes = %d, want OK", e)
	}
	if actions, states, e := terms.ParseText("kind", long[:api.MaxText+1], lengths); len(actions)+len(states) != 0 || e != api.ErrLarge {
		t.Errorf("ParseText of one byte more = %q %v %d, want ErrLarge", actions, states, e)
	}
}
