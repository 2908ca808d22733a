package system_test

import (
	"fmt"
	"math"
	"regexp"
	"slices"
	"strconv"
	"strings"
	"testing"

	"makeweight/api"
	"makeweight/system"
)

// P2.2: strings.

func TestStringOfExamples(t *testing.T) {
	for _, c := range []struct {
		m    api.System
		want string
	}{
		{tea(), "system coin tea\n0: coin 1\n1: tea 0\n"},
		{stop(), "system coin tea\n0: coin 1\n1:\n"},
		{build("", nil), "system\n0:\n"},
		{build("a", nil, nil), "system a\n0:\n1:\n"},
		{build("a b", row(0, 0, 0, 1, 1, 0), nil), "system a b\n0: a 0 a 1 b 0\n1:\n"},
		{build("b a", row(0, 0, 1, 0)), "system b a\n0: b 0 a 0\n"},
		{chain(12, 1), "system a\n0: a 1\n1: a 2\n2: a 3\n3: a 4\n4: a 5\n5: a 6\n6: a 7\n7: a 8\n8: a 9\n9: a 10\n10: a 11\n11:\n"},
	} {
		if s, e := system.String(c.m); s != c.want || e != api.OK {
			t.Errorf("String(%s) = %q %d, want %q", show(c.m), s, e, c.want)
		}
		for _, s := range []string{c.want, strings.TrimSuffix(c.want, "\n")} {
			m, e := system.Parse(s)
			same(t, fmt.Sprintf("Parse(%q), %d", s, e), m, c.m)
		}
	}
}

func TestStringHasNoLimit(t *testing.T) {
	s, e := system.String(edgesOf(api.MaxEdges))
	if e != api.OK || strings.Count(s, " a ") != api.MaxEdges || strings.Count(s, "\n") != 641 {
		t.Errorf("String of the most edges: %d bytes, %d", len(s), e)
	}
}

// TestParseOfWrongStrings has an error for each way in which a string can
// differ from that of a system.
func TestParseOfWrongStrings(t *testing.T) {
	for _, c := range []struct {
		want    api.Errno
		strings []string
	}{
		{api.ErrText, []string{
			// The first line.
			"", "\n", " ", "a", "systems a\n0:\n", "System a\n0:\n", " system a\n0:\n", "system\ta\n0:\n", "systema\n0:\n",
			"system \n0:\n", "system a \n0:\n", "system  a\n0:\n", "system a\r\n0:\n", "\nsystem a\n0:\n", "spec a\n0:\n",
			"system a a\n0:\n", "system 1\n0:\n", "system a,b\n0:\n", "system a b c d e f g h i\n0:\n",
			"system xxxxxxxxxxxxxxxxxxxxx\n0:\n", "system \u00e9\n0:\n", "0:\n", "0:\nsystem a\n",
			// The numbers of the states.
			"system a\n1:\n", "system a\n0:\n2:\n", "system a\n0:\n0:\n", "system a\n1:\n0:\n", "system a\n00:\n", "system a\n0:\n01:\n",
			"system a\n+0:\n", "system a\n-0:\n", "system a\n-1:\n", "system a\n0\n", "system a\n:\n", "system a\n0 :\n", "system a\na:\n",
			"system a\n 0:\n", "system a\n0;\n", "system a\n0::\n", "system a\n99999999999999999999:\n",
			// The ends of lines.
			"system a\n\n", "system a\n0:\n\n", "system a\n\n0:\n", "system a\n0:\n\n1:\n", "system a\n0:\n \n", "system a\n0:\r\n",
			"system a 0:\n", "system a\n0: 1:\n",
			// The edges.
			"system a\n0: \n", "system a\n0:  a 0\n", "system a\n0:a 0\n", "system a\n0: a\n", "system a\n0: a \n", "system a\n0: a  0\n",
			"system a\n0: a 0 \n", "system a\n0: a 0  a 0\n", "system a\n0: a 0 a\n", "system a\n0: 0\n", "system a\n0: 0 a\n",
			"system a\n0: b 0\n", "system a\n0: A 0\n", "system a\n0: aa 0\n", "system\n0: a 0\n", "system\n0:  0\n", "system a\n0: 0 0\n",
			"system a\n0: a\t0\n", "system a\n0: a,0\n", "system a b\n0: a 0, b 0\n",
			// The numbers of the edges.
			"system a\n0: a 00\n", "system a\n0: a -1\n", "system a\n0: a -0\n", "system a\n0: a +0\n", "system a\n0: a 0x0\n",
			"system a\n0: a 0.\n", "system a\n0: a 1e0\n", "system a\n0: a 1_0\n", "system a\n0: a a\n", "system a\n0: a \u0660\n",
			"system a\n0: a -99999999999999999999\n", "system a\n0: a 099999999999999999999\n", "system a\n0: a 99999999999999999999x\n",
		}},
		{api.ErrSystem, []string{
			"system", "system\n", "system a", "system a\n", "system a\n0: a 1\n", "system a\n0: a 1", "system a\n0:\n1: a 2\n",
			"system a\n0: a 0 a 0\n", "system a\n0: a 1 a 0\n1:\n", "system a b\n0: b 0 a 0\n", "system a b\n0: a 0 b 0 a 0\n",
			"system a\n0: a " + strconv.Itoa(math.MaxInt) + "\n", "system a\n0: a 9223372036854775808\n",
			"system a\n0: a 18446744073709551616\n", "system a\n0: a 99999999999999999999 a 99999999999999999999\n",
			"system a\n0: a 9" + strings.Repeat("0", 50000) + "\n",
		}},
	} {
		for _, s := range c.strings {
			m, e := system.Parse(s)
			if e != c.want {
				t.Errorf("Parse(%.100q) = %d, want %d", s, e, c.want)
			}
			same(t, fmt.Sprintf("Parse(%.100q)", s), m, api.System{})
		}
	}
}

// TestParseReadsBeforeItChecks has strings that are wrong behind a state that
// is not valid: ErrText is listed ahead of ErrSystem.
func TestParseReadsBeforeItChecks(t *testing.T) {
	for _, s := range []string{
		"system a\n0: a 7\n1: b 0\n", "system a\n0: a 0 a 0 a\n", "system a\n0: a 1 a 0\n2:\n", "system a\n0: a 99999999999999999999\n\n",
		"system a\n0: a 5 a x\n",
	} {
		if _, e := system.Parse(s); e != api.ErrText {
			t.Errorf("Parse(%q) = %d, want ErrText", s, e)
		}
	}
}

// textOfSize returns the string of a system that has exactly so many bytes, at
// most six more or less than MaxText.
func textOfSize(size int) string {
	m := build("a x", make([][]api.Edge, 2000)...)
	s, _ := system.String(m)
	edges := (api.MaxText - 10 - len(s)) / len(" a 0")
	for i := range edges {
		m.States[i/10] = append(m.States[i/10], api.Edge{To: i % 10})
	}
	// The name that no edge has brings the rest.
	m.Actions[1] = strings.Repeat("x", 1+size-len(s)-edges*len(" a 0"))
	s, _ = system.String(m)
	return s
}

func TestParseBoundsTheLength(t *testing.T) {
	for size := api.MaxText - 6; size <= api.MaxText+6; size++ {
		s := textOfSize(size)
		if len(s) != size {
			t.Fatalf("a string of %d bytes, not of %d", len(s), size)
		}
		want := api.OK
		if size > api.MaxText {
			want = api.ErrLarge
		}
		m, e := system.Parse(s)
		if e != want {
			t.Errorf("%d bytes: %d, want %d", size, e, want)
		}
		if e == api.OK {
			if again, _ := system.String(m); again != s {
				t.Errorf("%d bytes: another system", size)
			}
		}
		// Without its line feed the string has one byte less.
		want = api.OK
		if size-1 > api.MaxText {
			want = api.ErrLarge
		}
		if _, e := system.Parse(s[:size-1]); e != want {
			t.Errorf("%d bytes and no line feed: %d, want %d", size-1, e, want)
		}
	}
	for _, part := range []string{"x", " ", "\n", "system a\n0: a 1\n", "\xff"} {
		long := strings.Repeat(part, api.MaxText+1)
		if _, e := system.Parse(long[:api.MaxText+1]); e != api.ErrLarge {
			t.Errorf("%q, many times: %d, want ErrLarge", part, e)
		}
		if _, e := system.Parse(long[:api.MaxText]); e != api.ErrText {
			t.Errorf("%q, as often as can be: %d, want ErrText", part, e)
		}
	}
}

func TestParseBoundsTheStates(t *testing.T) {
	var s strings.Builder
	s.WriteString("system a\n")
	for state := range api.MaxNodes + 1 {
		s.WriteString(strconv.Itoa(state) + ":\n")
		want := api.OK
		if state >= api.MaxNodes {
			want = api.ErrSystem
		}
		if state < api.MaxNodes-2 {
			continue
		}
		if m, e := system.Parse(s.String()); e != want || e == api.OK && len(m.States) != state+1 {
			t.Errorf("%d states: %d states and %d, want %d", state+1, len(m.States), e, want)
		}
	}
}

// oracle reads a string in another way than the package does.
type oracle struct {
	whole, edge *regexp.Regexp
}

func newOracle() oracle {
	const name, number = `[a-zA-Z][-_a-zA-Z0-9]{0,19}`, `(?:0|[1-9][0-9]*)`
	return oracle{
		whole: regexp.MustCompile(`^system(?: ` + name + `){0,8}(?:\n` + number + `:(?: ` + name + ` ` + number + `)*)*\n?$`),
		edge:  regexp.MustCompile(` (\S+) (\S+)`),
	}
}

func (o oracle) parse(s string) (api.System, api.Errno) {
	if !o.whole.MatchString(s) {
		return api.System{}, api.ErrText
	}
	lines := strings.Split(strings.TrimRight(s, "\n"), "\n")
	m := build(strings.TrimPrefix(lines[0], "system"))
	for a, name := range m.Actions {
		if slices.Index(m.Actions, name) != a {
			return api.System{}, api.ErrText
		}
	}
	result := api.OK
	if len(lines) == 1 {
		result = api.ErrSystem
	}
	for state, line := range lines[1:] {
		if !strings.HasPrefix(line, fmt.Sprintf("%d:", state)) {
			return api.System{}, api.ErrText
		}
		var edges []api.Edge
		for _, word := range o.edge.FindAllStringSubmatch(line, -1) {
			to, err := strconv.ParseUint(word[2], 10, 64)
			e := api.Edge{Action: slices.Index(m.Actions, word[1]), To: int(to)}
			if e.Action < 0 {
				return api.System{}, api.ErrText
			}
			if err != nil || to >= uint64(len(lines)-1) || len(edges) > 0 && !before(edges[len(edges)-1], e) {
				result = api.ErrSystem
			}
			edges = append(edges, e)
		}
		m.States = append(m.States, edges)
	}
	if result != api.OK {
		return api.System{}, result
	}
	return m, api.OK
}

func before(e, f api.Edge) bool {
	return e.Action < f.Action || e.Action == f.Action && e.To < f.To
}

// TestParseOfChangedStrings puts one byte into strings of systems, takes one
// out, or replaces it, and compares Parse with the oracle.
func TestParseOfChangedStrings(t *testing.T) {
	o := newOracle()
	counts := map[api.Errno]int{}
	for _, m := range []api.System{tea(), build("", nil), build("a b", row(0, 0, 0, 1, 1, 0), row(1, 1)), build("a1 a", row(0, 0, 1, 0)), chain(11, 2)} {
		text, _ := system.String(m)
		for i := range len(text) + 1 {
			for _, b := range " \n:012ab-_s+,\r\x00\xff" {
				changed := []string{text[:i] + string([]byte{byte(b)}) + text[i:]}
				if i < len(text) {
					changed = append(changed, text[:i]+text[i+1:], text[:i]+string([]byte{byte(b)})+text[i+1:])
				}
				for _, s := range changed {
					want, e := o.parse(s)
					got, f := system.Parse(s)
					if e != f {
						t.Errorf("Parse(%q) = %d, want %d", s, f, e)
					}
					same(t, fmt.Sprintf("Parse(%q)", s), got, want)
					counts[e]++
				}
			}
		}
	}
	if counts[api.OK] < 100 || counts[api.ErrText] < 1000 || counts[api.ErrSystem] < 100 {
		t.Errorf("the changed strings are too much alike: %v", counts)
	}
}

// P2.6: Parse of String.

func TestParseOfString(t *testing.T) {
	l := append(systems(), ring(3000), chain(200, 40), full(100))
	for _, m := range l {
		s, e := system.String(m)
		if e != api.OK || len(s) > api.MaxText {
			t.Fatalf("String(%s): %d bytes, %d", show(m), len(s), e)
		}
		for _, text := range []string{s, s[:len(s)-1]} {
			n, e := system.Parse(text)
			if e != api.OK {
				t.Errorf("Parse of String(%s) = %d", show(m), e)
			}
			same(t, "Parse of String", n, m)
		}
	}
}

func TestParseOfTooLongAString(t *testing.T) {
	s, e := system.String(full(200))
	if _, f := system.Parse(s); e != api.OK || len(s) <= api.MaxText || f != api.ErrLarge {
		t.Errorf("%d bytes: %d and %d, want OK and ErrLarge", len(s), e, f)
	}
}
