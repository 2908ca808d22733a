package system

import (
	"strconv"
	"strings"

	"makeweight/act"
	"makeweight/api"
)

// String returns the string of m: a line with the actions, and one for each
// state with its edges.
func String(m api.System) (string, api.Errno) {
	if Check(m) != api.OK {
		return "", api.ErrSystem
	}
	var text strings.Builder
	text.WriteString("system")
	for _, name := range m.Actions {
		text.WriteString(" " + name)
	}
	text.WriteString("\n")
	for state, edges := range m.States {
		text.WriteString(strconv.Itoa(state) + ":")
		for _, e := range edges {
			text.WriteString(" " + m.Actions[e.Action] + " " + strconv.Itoa(e.To))
		}
		text.WriteString("\n")
	}
	return text.String(), api.OK
}

// Parse returns the system whose string is s, where the last line feed may be
// missing: ErrLarge if s is too long, ErrText if it is not such a string,
// ErrSystem if the system is not valid.
func Parse(s string) (api.System, api.Errno) {
	if len(s) > api.MaxText {
		return api.System{}, api.ErrLarge
	}
	lines := strings.Split(strings.TrimSuffix(s, "\n"), "\n")
	actions, ok := parseActions(lines[0])
	if !ok {
		return api.System{}, api.ErrText
	}
	m := api.System{Actions: actions}
	for state, line := range lines[1:] {
		edges, ok := parseState(actions, state, line)
		if !ok {
			return api.System{}, api.ErrText
		}
		m.States = append(m.States, edges)
	}
	// ErrText comes first, so the whole string is read before this.
	if Check(m) != api.OK {
		return api.System{}, api.ErrSystem
	}
	return m, api.OK
}

// parseActions reads the first line of the string of a system.
func parseActions(line string) ([]string, bool) {
	// A clone, as the names would otherwise keep the whole string in memory.
	words := strings.Split(strings.Clone(line), " ")
	if words[0] != "system" || act.Check(words[1:]) != api.OK {
		return nil, false
	}
	return words[1:], true
}

// parseState reads the line of a state.
func parseState(actions []string, state int, line string) ([]api.Edge, bool) {
	words := strings.Split(line, " ")
	if words[0] != strconv.Itoa(state)+":" || len(words)%2 == 0 {
		return nil, false
	}
	var edges []api.Edge
	for i := 1; i < len(words); i += 2 {
		action, found, _ := act.Find(actions, words[i])
		to, ok := parseNumber(words[i+1])
		if !found || !ok {
			return nil, false
		}
		edges = append(edges, api.Edge{Action: action, To: to})
	}
	return edges, true
}

// parseNumber reads a number that is not negative; the greatest int stands for
// all greater ones.
func parseNumber(s string) (int, bool) {
	if s == "" || len(s) > 1 && s[0] == '0' {
		return 0, false
	}
	for i := range len(s) {
		if s[i] < '0' || s[i] > '9' {
			return 0, false
		}
	}
	// Of digits alone, Atoi can only say that there are too many of them; it
	// then returns the greatest int.
	n, _ := strconv.Atoi(s)
	return n, true
}
