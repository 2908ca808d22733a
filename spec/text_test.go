package spec_test

import (
	"fmt"
	"math"
	"regexp"
	"slices"
	"strconv"
	"strings"
	"testing"

	"makeweight/act"
	"makeweight/api"
	"makeweight/spec"
)

// P3.2: strings.

func TestStringOfExamples(t *testing.T) {
	for _, c := range []struct {
		s    api.Spec
		want string
	}{
		{may(), "spec coin tea\n0: {coin} -> coin 1\n1: {} {tea} -> tea 0\n"},
		{build("", at(nil)), "spec\n0: ->\n"},
		{build("", at(sets(0)), at(nil)), "spec\n0: {} ->\n1: ->\n"},
		{build("a", at(nil, 0)), "spec a\n0: -> a 0\n"},
		{build("spec", at(sets(0, 1), 0)), "spec spec\n0: {} {spec} -> spec 0\n"},
		{build("a", at(nil, -1), at(sets(0), -1)), "spec a\n0: ->\n1: {} ->\n"},
		{build("b a", at(sets(0, 1, 2, 3), 0, 0)), "spec b a\n0: {} {b} {a} {b,a} -> b 0 a 0\n"},
		{build("a b c", at(sets(4, 5), 0, -1, 1), at(sets(0), -1, 1, -1)), "spec a b c\n0: {c} {a,c} -> a 0 c 1\n1: {} -> b 1\n"},
		{ring(11), "spec a\n0: {a} -> a 1\n1: {a} -> a 2\n2: {a} -> a 3\n3: {a} -> a 4\n4: {a} -> a 5\n5: {a} -> a 6\n6: {a} -> a 7\n7: {a} -> a 8\n8: {a} -> a 9\n9: {a} -> a 10\n10: {a} -> a 0\n"},
	} {
		if s, e := spec.String(c.s); s != c.want || e != api.OK {
			t.Errorf("String(%s) = %q %d, want %q", show(c.s), s, e, c.want)
		}
		for _, s := range []string{c.want, strings.TrimSuffix(c.want, "\n")} {
			parsed, e := spec.Parse(s)
			same(t, fmt.Sprintf("Parse(%q)", s), parsed, c.s)
			if e != api.OK {
				t.Errorf("Parse(%q) = %d, want OK", s, e)
			}
		}
	}
}

func TestStringHasNoLimit(t *testing.T) {
	all, _ := spec.All(strings.Fields(letters))
	s, e := spec.String(build(letters, slices.Repeat(all.States, api.MaxStates)...))
	if e != api.OK || strings.Count(s, "{") != api.MaxStates<<api.MaxActions || strings.Count(s, "\n") != api.MaxStates+1 {
		t.Errorf("String of the most sets: %d bytes, %d", len(s), e)
	}
}

// TestParseOfWrongStrings has an error for each way in which a string can
// differ from that of a specification.
func TestParseOfWrongStrings(t *testing.T) {
	for _, c := range []struct {
		want    api.Errno
		strings []string
	}{
		{api.ErrText, []string{
			// The first line.
			"", "\n", " ", "a", "specs a\n0: ->\n", "Spec a\n0: ->\n", " spec a\n0: ->\n", "spec\ta\n0: ->\n", "speca\n0: ->\n",
			"spec \n0: ->\n", "spec a \n0: ->\n", "spec  a\n0: ->\n", "spec a\r\n0: ->\n", "\nspec a\n0: ->\n", "system a\n0: ->\n",
			"spec a a\n0: ->\n", "spec 1\n0: ->\n", "spec a,b\n0: ->\n", "spec a b c d e f g h i\n0: ->\n",
			"spec xxxxxxxxxxxxxxxxxxxxx\n0: ->\n", "spec \u00e9\n0: ->\n", "0: ->\n", "0: ->\nspec a\n",
			// The numbers of the states.
			"spec a\n1: ->\n", "spec a\n0: ->\n2: ->\n", "spec a\n0: ->\n0: ->\n", "spec a\n1: ->\n0: ->\n", "spec a\n00: ->\n",
			"spec a\n0: ->\n01: ->\n", "spec a\n+0: ->\n", "spec a\n-0: ->\n", "spec a\n0 ->\n", "spec a\n: ->\n", "spec a\n0 : ->\n",
			"spec a\na: ->\n", "spec a\n 0: ->\n", "spec a\n0; ->\n", "spec a\n0:: ->\n", "spec a\n99999999999999999999: ->\n", "spec a\n->\n",
			"spec a\n{} ->\n",
			// The ends of lines.
			"spec a\n\n", "spec a\n0: ->\n\n", "spec a\n\n0: ->\n", "spec a\n0: ->\n\n1: ->\n", "spec a\n0: ->\n \n", "spec a\n0: ->\r\n",
			"spec a 0: ->\n", "spec a\n0: -> 1: ->\n", "spec a\n0:\n->\n", "spec a\n0: ->\na 0\n",
			// The arrow.
			"spec a\n0:\n", "spec a\n0: \n", "spec a\n0: {}\n", "spec a\n0: {a}\n", "spec a\n0:->\n", "spec a\n0:  ->\n", "spec a\n0: -> \n",
			"spec a\n0: -> ->\n", "spec a\n0: - >\n", "spec a\n0: =>\n", "spec a\n0: -\n", "spec a\n0: >\n", "spec a\n0: a 0\n", "spec a\n0: {}->\n",
			"spec a\n0: -> {}\n", "spec a\n0: {} -> {a} -> a 0\n", "spec a\n0: {a} a 0\n", "spec a\n0: {a} -> -> a 0\n", "spec a\n0: {a} ->a 0\n",
			// The sets.
			"spec a\n0: {}{} ->\n", "spec a\n0: {},{a} -> a 0\n", "spec a\n0: {b} -> a 0\n", "spec a\n0: {A} -> a 0\n", "spec a\n0: a -> a 0\n",
			"spec a\n0: {a -> a 0\n", "spec a\n0: a} -> a 0\n", "spec a\n0: {a,} -> a 0\n", "spec a\n0: {,} -> a 0\n", "spec a\n0: {a,a} -> a 0\n",
			"spec a b\n0: {b,a} -> a 0 b 0\n", "spec a b\n0: {a, b} -> a 0 b 0\n", "spec a b\n0: {a b} -> a 0 b 0\n", "spec a\n0: { } -> a 0\n",
			"spec a\n0: 1 -> a 0\n", "spec\n0: {a} ->\n", "spec a\n0:{} ->\n", "spec a\n0:  {} ->\n", "spec a\n0: {}  ->\n", "spec a\n0: {}  {a} -> a 0\n",
			"spec a\n0: {a}\t-> a 0\n", "spec a\n0: () ->\n",
			// The actions behind the arrow.
			"spec a\n0: ->  a 0\n", "spec a\n0: -> a\n", "spec a\n0: -> a \n", "spec a\n0: -> a  0\n", "spec a\n0: -> a 0 \n", "spec a\n0: -> 0\n",
			"spec a\n0: -> 0 a\n", "spec a\n0: -> b 0\n", "spec a\n0: -> A 0\n", "spec a\n0: -> aa 0\n", "spec\n0: -> a 0\n", "spec a\n0: -> {a} 0\n",
			"spec a\n0: -> a 0 a 0\n", "spec a b\n0: -> a 0 a 0\n", "spec a b\n0: -> b 0 a 0\n", "spec a b c\n0: -> a 0 c 0 b 0\n",
			"spec a b\n0: -> b 0 b 0\n", "spec a b\n0: -> a 0, b 0\n", "spec a b\n0: -> a 0  b 0\n", "spec a b\n0: -> a b\n", "spec a b\n0: -> a 0 b\n",
			"spec a\n0: -> a\t0\n", "spec a\n0: -> a,0\n", "spec a b\n0: -> a 0 0\n",
			// The numbers behind them.
			"spec a\n0: -> a 00\n", "spec a\n0: -> a -1\n", "spec a\n0: {} -> a -1\n", "spec a\n0: -> a -0\n", "spec a\n0: -> a +0\n", "spec a\n0: -> a 0x0\n",
			"spec a\n0: -> a 0.\n", "spec a\n0: -> a 1e0\n", "spec a\n0: -> a 1_0\n", "spec a\n0: -> a a\n", "spec a\n0: -> a \u0660\n", "spec a\n0: -> a ->\n",
			"spec a\n0: -> a -99999999999999999999\n", "spec a\n0: -> a 099999999999999999999\n", "spec a\n0: -> a 99999999999999999999x\n",
		}},
		{api.ErrSpec, []string{
			"spec", "spec\n", "spec a", "spec a\n",
			"spec a\n0: -> a 1\n", "spec a\n0: -> a 1", "spec a\n0: ->\n1: -> a 2\n",
			"spec a\n0: {a} {} -> a 0\n", "spec a\n0: {a} {a} -> a 0\n", "spec a\n0: {} {} ->\n", "spec a b\n0: {} {b} {a} -> a 0 b 0\n",
			"spec a b\n0: {a,b} {b} -> a 0 b 0\n", "spec a b\n0: ->\n1: {} {a} {b} {a} -> a 0 b 0\n",
			"spec a\n0: {a} ->\n", "spec a b\n0: {a,b} -> a 0\n", "spec a b\n0: {} {b} -> a 0\n", "spec a\n0: {a} -> a 0\n1: {} {a} ->\n",
			"spec a\n0: -> a " + strconv.Itoa(math.MaxInt) + "\n", "spec a\n0: -> a 9223372036854775808\n",
			"spec a\n0: -> a 18446744073709551615\n", "spec a\n0: -> a 18446744073709551616\n", "spec a\n0: {a} -> a 99999999999999999999\n",
			"spec a\n0: -> a 9" + strings.Repeat("0", 50000) + "\n",
		}},
	} {
		for _, s := range c.strings {
			parsed, e := spec.Parse(s)
			if e != c.want {
				t.Errorf("Parse(%.100q) = %d, want %d", s, e, c.want)
			}
			same(t, fmt.Sprintf("Parse(%.100q)", s), parsed, api.Spec{})
		}
	}
}

// TestParseReadsBeforeItChecks has strings that are wrong behind a state that
// is not valid: ErrText is listed ahead of ErrSpec.
func TestParseReadsBeforeItChecks(t *testing.T) {
	for _, s := range []string{
		"spec a\n0: -> a 7\n1: -> b 0\n", "spec a\n0: {a} {} -> a\n", "spec a\n0: {a} {a}\n", "spec a\n0: {a} ->\n2: ->\n",
		"spec a\n0: -> a 99999999999999999999\n\n", "spec a b\n0: {b} -> a 5 b x\n", "spec a\n0: {a} {} {b} -> a 0\n",
		"spec a\n" + states(api.MaxStates+1) + "x",
	} {
		if _, e := spec.Parse(s); e != api.ErrText {
			t.Errorf("Parse(%.100q) = %d, want ErrText", s, e)
		}
	}
}

// states returns the lines of so many states without sets.
func states(n int) string {
	var s strings.Builder
	for state := range n {
		s.WriteString(strconv.Itoa(state) + ": ->\n")
	}
	return s.String()
}

func TestParseBoundsTheStates(t *testing.T) {
	for n := api.MaxStates - 1; n <= api.MaxStates+2; n++ {
		want, count := api.OK, n
		if n > api.MaxStates {
			want, count = api.ErrSpec, 0
		}
		if s, e := spec.Parse("spec a\n" + states(n)); len(s.States) != count || e != want {
			t.Errorf("%d states: %d states and %d, want %d", n, len(s.States), e, want)
		}
	}
	// A Next to the last state, and one behind it.
	for to, want := range map[int]api.Errno{499: api.OK, 500: api.ErrSpec} {
		text := strings.Replace("spec a\n"+states(api.MaxStates), "->", "-> a "+strconv.Itoa(to), 1)
		if _, e := spec.Parse(text); e != want {
			t.Errorf("a Next of %d: %d, want %d", to, e, want)
		}
	}
}

// textOfSize returns the string of a specification that has exactly so many
// bytes, about as many as MaxText.
func textOfSize(size int) string {
	s := build("a b c d e f x", slices.Repeat([]api.State{at(nil, 0, 0, 0, 0, 0, 0, -1)}, 180)...)
	text, _ := spec.String(s)
	rest := size - len(text)
filling:
	for state := range s.States {
		for set := range 1 << 6 {
			braced, _ := act.String(s.Actions, set)
			if rest < 1+len(braced) {
				break filling
			}
			rest -= 1 + len(braced)
			s.States[state].Accept = append(s.States[state].Accept, set)
		}
	}
	// The name that no set has brings the rest.
	s.Actions[6] = strings.Repeat("x", 1+rest)
	text, _ = spec.String(s)
	return text
}

func TestParseBoundsTheLength(t *testing.T) {
	for size := api.MaxText - 6; size <= api.MaxText+6; size++ {
		text := textOfSize(size)
		if len(text) != size {
			t.Fatalf("a string of %d bytes, not of %d", len(text), size)
		}
		want := api.OK
		if size > api.MaxText {
			want = api.ErrLarge
		}
		s, e := spec.Parse(text)
		if e != want {
			t.Errorf("%d bytes: %d, want %d", size, e, want)
		}
		if again, _ := spec.String(s); e == api.OK && again != text {
			t.Errorf("%d bytes: another specification", size)
		}
		// Without its line feed the string has one byte less.
		want = api.OK
		if size-1 > api.MaxText {
			want = api.ErrLarge
		}
		if _, e := spec.Parse(text[:size-1]); e != want {
			t.Errorf("%d bytes and no line feed: %d, want %d", size-1, e, want)
		}
	}
	for _, part := range []string{"x", " ", "\n", "spec a\n0: -> a 1\n", "\xff"} {
		long := strings.Repeat(part, api.MaxText+1)
		if s, e := spec.Parse(long[:api.MaxText+1]); len(s.Actions)+len(s.States) > 0 || e != api.ErrLarge {
			t.Errorf("%q, many times: %d, want ErrLarge", part, e)
		}
		if _, e := spec.Parse(long[:api.MaxText]); e != api.ErrText {
			t.Errorf("%q, as often as can be: %d, want ErrText", part, e)
		}
	}
}

// oracle reads a string in another way than the package does.
type oracle struct {
	whole, set, edge *regexp.Regexp
}

func newOracle() oracle {
	const name, number = `[a-zA-Z][-_a-zA-Z0-9]{0,19}`, `(?:0|[1-9][0-9]*)`
	const set, edge = ` \{(?:` + name + `(?:,` + name + `)*)?\}`, ` ` + name + ` ` + number
	return oracle{
		whole: regexp.MustCompile(`^spec(?: ` + name + `){0,8}(?:\n` + number + `:(?:` + set + `)* ->(?:` + edge + `)*)*\n?$`),
		set:   regexp.MustCompile(`\{(.*?)\}`),
		edge:  regexp.MustCompile(` (\S+) (\S+)`),
	}
}

// ascending returns the places of names in a list, and whether each is there
// and behind the one before it.
func ascending(names, list []string) ([]int, bool) {
	var places []int
	for i, name := range names {
		places = append(places, slices.Index(list, name))
		if places[i] < 0 || i > 0 && places[i] <= places[i-1] {
			return nil, false
		}
	}
	return places, true
}

func (o oracle) parse(text string) (api.Spec, api.Errno) {
	if !o.whole.MatchString(text) {
		return api.Spec{}, api.ErrText
	}
	lines := strings.Split(strings.TrimRight(text, "\n"), "\n")
	s := build(strings.TrimPrefix(lines[0], "spec"))
	if _, ok := ascending(s.Actions, s.Actions); !ok {
		return api.Spec{}, api.ErrText
	}
	result := api.OK
	if len(lines) == 1 {
		result = api.ErrSpec
	}
	for number, line := range lines[1:] {
		state, e := o.parseState(s.Actions, number, len(lines)-1, line)
		if e == api.ErrText {
			return api.Spec{}, e
		}
		result = max(result, e)
		s.States = append(s.States, state)
	}
	if result != api.OK {
		return api.Spec{}, result
	}
	return s, api.OK
}

func (o oracle) parseState(actions []string, number, states int, line string) (api.State, api.Errno) {
	result := api.OK
	state := api.State{Next: slices.Repeat([]int{-1}, len(actions))}
	sets, edges, _ := strings.Cut(line, "->")
	var names []string
	leading := 0
	for _, m := range o.edge.FindAllStringSubmatch(edges, -1) {
		names = append(names, m[1])
		to, err := strconv.ParseUint(m[2], 10, 64)
		if err != nil || to >= uint64(states) {
			result = api.ErrSpec
		}
		if a := slices.Index(actions, m[1]); a >= 0 {
			state.Next[a] = int(to)
			leading |= 1 << a
		}
	}
	_, ok := ascending(names, actions)
	if !ok || !strings.HasPrefix(line, fmt.Sprintf("%d:", number)) {
		return state, api.ErrText
	}
	for _, m := range o.set.FindAllStringSubmatch(sets, -1) {
		places, ok := ascending(strings.FieldsFunc(m[1], func(r rune) bool { return r == ',' }), actions)
		if !ok {
			return state, api.ErrText
		}
		set := 0
		for _, a := range places {
			set += 1 << a
		}
		if set|leading != leading || len(state.Accept) > 0 && set <= slices.Max(state.Accept) {
			result = api.ErrSpec
		}
		state.Accept = append(state.Accept, set)
	}
	return state, result
}

// TestParseOfChangedStrings puts one byte into strings of specifications,
// takes one out, or replaces it, and compares Parse with the oracle.
func TestParseOfChangedStrings(t *testing.T) {
	o := newOracle()
	counts := map[api.Errno]int{}
	for _, text := range []string{
		"spec coin tea\n0: {coin} -> coin 1\n1: {} {tea} -> tea 0\n", "spec\n0: {} ->\n", "spec a b\n0: {} {a} {a,b} -> a 0 b 1\n1: ->\n",
		"spec a1 a\n0: {a1,a} -> a1 0 a 0\n", "spec a b c\n0: {b} {a,c} -> a 0 b 1 c 0\n1: {b} -> b 1\n", "spec a\n0: ->\n1: ->\n2: ->\n3: ->\n4: ->\n5: ->\n6: ->\n7: ->\n8: ->\n9: -> a 10\n10: ->",
	} {
		for i := range len(text) + 1 {
			for _, b := range []byte(" \n:012ab-_s+,{}>\r\x00\xff") {
				changed := []string{text[:i] + string([]byte{b}) + text[i:]}
				if i < len(text) {
					changed = append(changed, text[:i]+text[i+1:], text[:i]+string([]byte{b})+text[i+1:])
				}
				for _, s := range changed {
					want, e := o.parse(s)
					got, f := spec.Parse(s)
					if e != f {
						t.Errorf("Parse(%q) = %d, want %d", s, f, e)
					}
					same(t, fmt.Sprintf("Parse(%q)", s), got, want)
					counts[e]++
				}
			}
		}
	}
	if counts[api.OK] < 100 || counts[api.ErrText] < 1000 || counts[api.ErrSpec] < 50 {
		t.Errorf("the changed strings are too much alike: %v", counts)
	}
}

// P3.6: Parse of String.

func TestParseOfString(t *testing.T) {
	all, _ := spec.All(strings.Fields(letters))
	for _, s := range append(specs(), ring(api.MaxStates), build(letters, slices.Repeat(all.States, 20)...)) {
		text, e := spec.String(s)
		if e != api.OK || len(text) > api.MaxText {
			t.Fatalf("String(%s): %d bytes, %d", show(s), len(text), e)
		}
		for _, text := range []string{text, text[:len(text)-1]} {
			parsed, e := spec.Parse(text)
			if e != api.OK {
				t.Errorf("Parse of String(%s) = %d", show(s), e)
			}
			same(t, "Parse of String", parsed, s)
		}
	}
}

func TestParseOfTooLongAString(t *testing.T) {
	all, _ := spec.All(strings.Fields(letters))
	text, e := spec.String(build(letters, slices.Repeat(all.States, 40)...))
	if _, f := spec.Parse(text); e != api.OK || len(text) <= api.MaxText || f != api.ErrLarge {
		t.Errorf("%d bytes: %d and %d, want OK and ErrLarge", len(text), e, f)
	}
}
