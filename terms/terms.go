// Package terms has what several layers share of the terms and rules of
// shared/DOC.md: words and sets of actions, what states offer, and the strings
// of systems and specifications.
package terms

import (
	"strconv"
	"strings"

	"makeweight/act"
	"makeweight/api"
)

// IsWord reports whether word is a word of so many actions.
func IsWord(word []int, actions int) bool {
	// The length comes first: it bounds the work that the numbers cause.
	if len(word) > api.MaxWord {
		return false
	}
	for _, action := range word {
		if action < 0 || action >= actions {
			return false
		}
	}
	return true
}

// IsSet reports whether set is a set of so many actions.
func IsSet(set, actions int) bool {
	return set >= 0 && set < 1<<actions
}

// Offered returns the set of the actions of edges.
func Offered(edges []api.Edge) int {
	set := 0
	for _, e := range edges {
		set |= 1 << e.Action
	}
	return set
}

// ParseNumber reads a number that is not negative; the greatest int stands for
// all greater ones.
func ParseNumber(s string) (int, bool) {
	if s == "" || len(s) > 1 && s[0] == '0' {
		return 0, false
	}
	for i := range len(s) {
		if s[i] < '0' || s[i] > '9' {
			return 0, false
		}
	}
	// Of digits alone, Atoi can only say that there are too many of them; it
	// then returns the greatest int.
	n, _ := strconv.Atoi(s)
	return n, true
}

// Text returns the string of an object: a line with its kind and its actions,
// and one for each state with its number, and what line returns for it.
func Text[S any](kind string, actions []string, states []S, line func(state S) string) string {
	var text strings.Builder
	text.WriteString(strings.Join(append([]string{kind}, actions...), " ") + "\n")
	for number, state := range states {
		text.WriteString(strconv.Itoa(number) + ":" + line(state) + "\n")
	}
	return text.String()
}

// ParseText reads the string of an object, where the last line feed may be
// missing, and returns its actions and its states. What stands behind the
// number of a state is read by parse, word by word. ParseText returns ErrLarge
// if text is too long, ErrText if it is not such a string.
func ParseText[S any](kind, text string, parse func(actions, words []string) (S, bool)) ([]string, []S, api.Errno) {
	if len(text) > api.MaxText {
		return nil, nil, api.ErrLarge
	}
	lines := strings.Split(strings.TrimSuffix(text, "\n"), "\n")
	// A clone, as the names would otherwise keep the whole text in memory.
	heading := strings.Split(strings.Clone(lines[0]), " ")
	actions := heading[1:]
	if heading[0] != kind || act.Check(actions) != api.OK {
		return nil, nil, api.ErrText
	}
	var states []S
	for number, line := range lines[1:] {
		words := strings.Split(line, " ")
		state, ok := parse(actions, words[1:])
		if !ok || words[0] != strconv.Itoa(number)+":" {
			return nil, nil, api.ErrText
		}
		states = append(states, state)
	}
	return actions, states, api.OK
}
