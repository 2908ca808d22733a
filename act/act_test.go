package act_test

import (
	"math"
	"slices"
	"strconv"
	"strings"
	"testing"

	"makeweight/act"
	"makeweight/api"
)

var drinks = []string{"coin", "tea"}

// eight is a longest list of actions.
var eight = []string{"a", "b", "c", "d", "e", "f", "g", "h"}

// lists are lists of actions of all lengths, with names of which one begins
// another one, or differs from it in case only.
func lists() [][]string {
	l := [][]string{nil, {}, drinks, {"a", "ab", "aba", "A", "b"}, {"tea", "coin"}, {"x-1", "x_1", "x1", strings.Repeat("x", api.MaxName)}}
	for n := range len(eight) {
		l = append(l, eight[:n+1])
	}
	return l
}

// badLists are lists that are none of actions, each for another reason.
func badLists() map[string][]string {
	return map[string][]string{
		"empty name":       {""},
		"empty name last":  {"a", ""},
		"digit first":      {"1a"},
		"hyphen first":     {"-a"},
		"underscore first": {"_a"},
		"long name":        {strings.Repeat("x", api.MaxName+1)},
		"huge name":        {strings.Repeat("x", 1<<20)},
		"blank":            {"a b"},
		"comma":            {"a,b"},
		"brace":            {"a}"},
		"line feed":        {"a\n"},
		"letter of two":    {"\u00e9"},
		"no letter of two": {"a\u00e9"},
		"not UTF-8":        {"a\xff"},
		"same names":       {"a", "a"},
		"same names apart": {"a", "b", "c", "a"},
		"nine actions":     append(slices.Clone(eight), "i"),
		"nine same":        slices.Repeat([]string{"a"}, 9),
		"many":             make([]string, 1<<20),
	}
}

// textOf is the string of a set, put together in another way than by the
// package, so that both can be compared.
func textOf(actions []string, set int) string {
	text := ""
	for a, name := range actions {
		if set/(1<<a)%2 == 1 {
			if text != "" {
				text += ","
			}
			text += name
		}
	}
	return "{" + text + "}"
}

// noSets are numbers that are not sets of n actions.
func noSets(n int) []int {
	return []int{-1, -2, -1 << n, 1 << n, 1<<n + 1, 1 << 8, 1 << 32, math.MaxInt, math.MinInt}
}

// P1.1: what Check and Find return.

func TestCheckAcceptsActions(t *testing.T) {
	for _, l := range lists() {
		if e := act.Check(l); e != api.OK {
			t.Errorf("Check(%q) = %d, want OK", l, e)
		}
	}
}

func TestCheckRefusesOtherLists(t *testing.T) {
	for why, l := range badLists() {
		if e := act.Check(l); e != api.ErrActions {
			t.Errorf("%s: Check = %d, want ErrActions", why, e)
		}
	}
}

func TestCheckLooksAtEachByteOfAName(t *testing.T) {
	const letters = "abcdefghijklmnopqrstuvwxyzABCDEFGHIJKLMNOPQRSTUVWXYZ"
	for b := range 256 {
		one := string([]byte{byte(b)})
		for _, c := range []struct {
			name, allowed string
		}{
			{one, letters},
			{one + "x", letters},
			{"x" + one, letters + "0123456789-_"},
			{"x" + one + "x", letters + "0123456789-_"},
			{strings.Repeat("x", api.MaxName-1) + one, letters + "0123456789-_"},
		} {
			want := api.ErrActions
			if strings.Contains(c.allowed, one) {
				want = api.OK
			}
			if e := act.Check([]string{"tea", c.name}); e != want {
				t.Errorf("Check of the name %q = %d, want %d", c.name, e, want)
			}
		}
	}
}

func TestCheckBoundsLengths(t *testing.T) {
	for n := range 25 {
		want := api.OK
		if n < 1 || n > 20 {
			want = api.ErrActions
		}
		if e := act.Check([]string{strings.Repeat("n", n)}); e != want {
			t.Errorf("a name of %d bytes: %d, want %d", n, e, want)
		}
	}
	for n := range 12 {
		var l []string
		for a := range n {
			l = append(l, "a"+strconv.Itoa(a))
		}
		want := api.OK
		if n > 8 {
			want = api.ErrActions
		}
		if e := act.Check(l); e != want {
			t.Errorf("%d actions: %d, want %d", n, e, want)
		}
	}
}

func TestFindReturnsTheNumber(t *testing.T) {
	for _, l := range lists() {
		for a, name := range l {
			if n, ok, e := act.Find(l, name); n != a || !ok || e != api.OK {
				t.Errorf("Find(%q, %q) = %d %v %d, want %d true 0", l, name, n, ok, e, a)
			}
		}
	}
}

func TestFindOfOtherNames(t *testing.T) {
	for _, c := range []struct {
		actions []string
		name    string
	}{
		{nil, ""}, {nil, "tea"}, {drinks, ""}, {drinks, "milk"}, {drinks, "te"}, {drinks, "teas"}, {drinks, "Tea"},
		{drinks, " tea"}, {drinks, "coin,tea"}, {drinks, "{tea}"}, {drinks, "1"}, {drinks, strings.Repeat("tea", 1<<20)},
	} {
		if n, ok, e := act.Find(c.actions, c.name); n != 0 || ok || e != api.OK {
			t.Errorf("Find(%q, %.20q) = %d %v %d, want 0 false 0", c.actions, c.name, n, ok, e)
		}
	}
}

// P1.2: strings of sets.

func TestStringOfExamples(t *testing.T) {
	for _, c := range []struct {
		actions []string
		set     int
		want    string
	}{
		{nil, 0, "{}"}, {drinks, 0, "{}"}, {drinks, 1, "{coin}"}, {drinks, 2, "{tea}"}, {drinks, 3, "{coin,tea}"},
		{[]string{"tea", "coin"}, 3, "{tea,coin}"}, {eight, 255, "{a,b,c,d,e,f,g,h}"}, {eight, 129, "{a,h}"},
	} {
		if s, e := act.String(c.actions, c.set); s != c.want || e != api.OK {
			t.Errorf("String(%q, %d) = %q %d, want %q 0", c.actions, c.set, s, e, c.want)
		}
	}
}

func TestStringOfAllSets(t *testing.T) {
	for _, l := range lists() {
		for set := range 1 << len(l) {
			if s, e := act.String(l, set); s != textOf(l, set) || e != api.OK {
				t.Errorf("String(%q, %d) = %q %d, want %q 0", l, set, s, e, textOf(l, set))
			}
		}
	}
}

func TestStringRefusesOtherNumbers(t *testing.T) {
	for _, l := range lists() {
		for _, set := range noSets(len(l)) {
			if s, e := act.String(l, set); s != "" || e != api.ErrArg {
				t.Errorf("String(%q, %d) = %q %d, want ErrArg", l, set, s, e)
			}
		}
	}
}

func TestParseOfAllStrings(t *testing.T) {
	for _, l := range lists() {
		for set := range 1 << len(l) {
			if n, e := act.Parse(l, textOf(l, set)); n != set || e != api.OK {
				t.Errorf("Parse(%q, %q) = %d %d, want %d 0", l, textOf(l, set), n, e, set)
			}
		}
	}
}

func TestParseRefusesOtherStrings(t *testing.T) {
	for _, s := range []string{
		"", "{", "}", "}{", "{{}}", "{}{}", "coin", "coin,tea", "{coin", "coin}", "{coin}}", "{{coin}", " {coin}", "{coin} ",
		"{coin}\n", "{ coin}", "{coin }", "{coin, tea}", "{,}", "{,coin}", "{coin,}", "{coin,,tea}", "{coin tea}", "{coin;tea}",
		"{tea,coin}", "{coin,coin}", "{tea,tea}", "{coin,tea,tea}", "{coin,tea,coin}", "{milk}", "{coin,milk}", "{Coin}", "{coi}",
		"{coins}", "{1}", "{coin,tea}{}", "(coin)", "[coin]", "\x00{coin}", "{coin\xff}",
	} {
		if n, e := act.Parse(drinks, s); n != 0 || e != api.ErrText {
			t.Errorf("Parse(%q) = %d %d, want 0 ErrText", s, n, e)
		}
	}
	for _, s := range []string{"", "{,}", "{a}", "{ }"} {
		if n, e := act.Parse(nil, s); n != 0 || e != api.ErrText {
			t.Errorf("Parse(nil, %q) = %d %d, want 0 ErrText", s, n, e)
		}
	}
}

// TestParseOfShortStrings holds Parse against all strings of sets, for each
// string of at most seven of the bytes that such strings are made of.
func TestParseOfShortStrings(t *testing.T) {
	actions := []string{"a", "ab", "b"}
	sets := map[string]int{}
	for set := range 1 << len(actions) {
		sets[textOf(actions, set)] = set
	}
	layer := []string{""}
	for range 8 {
		var longer []string
		for _, s := range layer {
			want := api.ErrText
			set, ok := sets[s]
			if ok {
				want = api.OK
			}
			if n, e := act.Parse(actions, s); n != set || e != want {
				t.Fatalf("Parse(%q) = %d %d, want %d %d", s, n, e, set, want)
			}
			for _, b := range "{},ab" {
				longer = append(longer, s+string(b))
			}
		}
		layer = longer
	}
}

func TestParseOfLongStrings(t *testing.T) {
	for _, part := range []string{"coin", "coin,", ",", "{", "}", "x"} {
		long := strings.Repeat(part, 1<<20)
		for _, s := range []string{long, "{" + long, long + "}", "{" + long + "}"} {
			if n, e := act.Parse(drinks, s); n != 0 || e != api.ErrText {
				t.Errorf("Parse(%.20q..) = %d %d, want 0 ErrText", s, n, e)
			}
		}
	}
}

// P1.3: lists.

func TestListOfExamples(t *testing.T) {
	for _, c := range []struct {
		actions []string
		set     int
		want    []int
	}{
		{nil, 0, nil}, {drinks, 0, nil}, {drinks, 1, []int{0}}, {drinks, 2, []int{1}}, {drinks, 3, []int{0, 1}},
		{eight, 255, []int{0, 1, 2, 3, 4, 5, 6, 7}}, {eight, 128, []int{7}}, {eight, 0b10100110, []int{1, 2, 5, 7}},
	} {
		if l, e := act.List(c.actions, c.set); !slices.Equal(l, c.want) || e != api.OK {
			t.Errorf("List(%q, %d) = %v %d, want %v 0", c.actions, c.set, l, e, c.want)
		}
	}
}

func TestListOfAllSets(t *testing.T) {
	for _, actions := range lists() {
		for set := range 1 << len(actions) {
			l, e := act.List(actions, set)
			sum := 0
			for _, a := range l {
				sum += 1 << a
			}
			if e != api.OK || sum != set || !slices.IsSorted(l) {
				t.Errorf("List(%q, %d) = %v %d", actions, set, l, e)
			}
		}
	}
}

func TestListRefusesOtherNumbers(t *testing.T) {
	for _, actions := range lists() {
		for _, set := range noSets(len(actions)) {
			if l, e := act.List(actions, set); len(l) != 0 || e != api.ErrArg {
				t.Errorf("List(%q, %d) = %v %d, want ErrArg", actions, set, l, e)
			}
		}
	}
}

func TestSetsOfExamples(t *testing.T) {
	for _, c := range []struct {
		actions  []string
		l, wants []int
	}{
		{nil, nil, nil}, {nil, []int{0, 0}, []int{0}}, {drinks, nil, nil}, {drinks, []int{}, nil}, {drinks, []int{2}, []int{2}},
		{drinks, []int{3, 0, 3, 1}, []int{0, 1, 3}}, {drinks, []int{3, 2, 1, 0}, []int{0, 1, 2, 3}},
		{drinks, []int{0, 1, 2, 3}, []int{0, 1, 2, 3}}, {eight, []int{255, 100, 255, 0, 9, 100}, []int{0, 9, 100, 255}},
	} {
		if l, e := act.Sets(c.actions, c.l); !slices.Equal(l, c.wants) || e != api.OK {
			t.Errorf("Sets(%q, %v) = %v %d, want %v 0", c.actions, c.l, l, e, c.wants)
		}
	}
}

func TestSetsOfAllSetsManyTimes(t *testing.T) {
	var many, want []int
	for i := range 1 << 20 {
		many = append(many, i*77%256)
	}
	for set := range 256 {
		want = append(want, set)
	}
	if l, e := act.Sets(eight, many); !slices.Equal(l, want) || e != api.OK {
		t.Errorf("Sets = %v %d, want all sets", l, e)
	}
}

func TestSetsRefusesOtherNumbers(t *testing.T) {
	for _, actions := range lists() {
		for _, set := range noSets(len(actions)) {
			for _, l := range [][]int{{set}, {set, 0}, {0, set}, {0, set, 0}} {
				if got, e := act.Sets(actions, l); len(got) != 0 || e != api.ErrArg {
					t.Errorf("Sets(%q, %v) = %v %d, want ErrArg", actions, l, got, e)
				}
			}
		}
	}
}

// All promises, R1 and R4: ErrActions comes first, with zero results.

func TestErrActionsFirst(t *testing.T) {
	for why, actions := range badLists() {
		if n, ok, e := act.Find(actions, "a"); n != 0 || ok || e != api.ErrActions {
			t.Errorf("%s: Find = %d %v %d", why, n, ok, e)
		}
		for _, set := range append(noSets(8), 0, 1) {
			if s, e := act.String(actions, set); s != "" || e != api.ErrActions {
				t.Errorf("%s: String of %d = %q %d", why, set, s, e)
			}
			if l, e := act.List(actions, set); len(l) != 0 || e != api.ErrActions {
				t.Errorf("%s: List of %d = %v %d", why, set, l, e)
			}
			if l, e := act.Sets(actions, []int{1, set}); len(l) != 0 || e != api.ErrActions {
				t.Errorf("%s: Sets of %d = %v %d", why, set, l, e)
			}
		}
		for _, s := range []string{"{}", "{a}", "", "x"} {
			if n, e := act.Parse(actions, s); n != 0 || e != api.ErrActions {
				t.Errorf("%s: Parse of %q = %d %d", why, s, n, e)
			}
		}
	}
}

// P1.4: Parse of String returns the set.

func TestParseOfString(t *testing.T) {
	for _, l := range lists() {
		for set := range 1 << len(l) {
			s, e := act.String(l, set)
			n, f := act.Parse(l, s)
			if n != set || e != api.OK || f != api.OK {
				t.Errorf("%q: Parse(String(%d)) = %d (%d, %d; %q)", l, set, n, e, f, s)
			}
		}
	}
}

// R5 and R8: arguments are neither modified nor kept, results are new memory,
// and the same arguments give the same results.

func TestArgumentsAreNotModified(t *testing.T) {
	actions := slices.Clone(eight)
	// There is room behind both lists, into which nothing may be written.
	l := []int{5, 3, 255, 3, 0, 7, 7}
	act.Check(actions[:3])
	act.Find(actions[:3], "c")
	act.String(actions[:3], 5)
	act.Parse(actions[:3], "{a,c}")
	act.List(actions[:3], 5)
	act.Sets(actions[:3], l[:2])
	act.Sets(actions, l[:5])
	act.Sets(actions[:3], l)
	if !slices.Equal(actions, eight) {
		t.Errorf("actions became %q", actions)
	}
	if !slices.Equal(l, []int{5, 3, 255, 3, 0, 7, 7}) {
		t.Errorf("the list became %v", l)
	}
}

func TestResultsAreNewMemory(t *testing.T) {
	actions := slices.Clone(eight)
	l := []int{1, 2, 3}
	first, _ := act.Sets(actions, l)
	second, _ := act.Sets(actions, l)
	ones, _ := act.List(actions, 7)
	same, _ := act.List(actions, 7)
	for i := range 3 {
		l[i], first[i], ones[i] = 9, 8, 9
	}
	actions[0] = "z"
	if !slices.Equal(l, []int{9, 9, 9}) || !slices.Equal(second, []int{1, 2, 3}) {
		t.Errorf("Sets shares memory: %v %v", l, second)
	}
	if !slices.Equal(same, []int{0, 1, 2}) {
		t.Errorf("List shares memory: %v", same)
	}
	if l, e := act.Sets(eight, []int{3, 1, 2}); !slices.Equal(l, []int{1, 2, 3}) || e != api.OK {
		t.Errorf("Sets = %v %d after its results were written to", l, e)
	}
	if l, e := act.List(eight, 7); !slices.Equal(l, []int{0, 1, 2}) || e != api.OK {
		t.Errorf("List = %v %d after its results were written to", l, e)
	}
}

func TestActionsAreNotKept(t *testing.T) {
	actions := []string{"coin", "tea"}
	act.Check(actions)
	act.String(actions, 3)
	actions[0], actions[1] = "tea", "coin"
	if s, e := act.String(actions, 1); s != "{tea}" || e != api.OK {
		t.Errorf("String = %q %d", s, e)
	}
	if n, e := act.Parse(actions, "{tea,coin}"); n != 3 || e != api.OK {
		t.Errorf("Parse = %d %d", n, e)
	}
	if n, ok, e := act.Find(actions, "tea"); n != 0 || !ok || e != api.OK {
		t.Errorf("Find = %d %v %d", n, ok, e)
	}
	actions[1] = "tea"
	if e := act.Check(actions); e != api.ErrActions {
		t.Errorf("Check = %d", e)
	}
}

func TestSameArgumentsSameResults(t *testing.T) {
	for range 3 {
		for set := range 256 {
			s, _ := act.String(eight, set)
			l, _ := act.List(eight, set)
			act.String(eight, set+1)
			act.Sets(eight, []int{set, 255 - set})
			again, _ := act.String(eight, set)
			list, _ := act.List(eight, set)
			if s != again || !slices.Equal(l, list) {
				t.Errorf("set %d: %q and %q, %v and %v", set, s, again, l, list)
			}
		}
	}
}
