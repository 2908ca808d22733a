package system

import (
	"strconv"
	"strings"

	"makeweight/act"
	"makeweight/api"
	"makeweight/terms"
)

// String returns the string of m: a line with the actions, and one for each
// state with its edges.
func String(m api.System) (string, api.Errno) {
	if Check(m) != api.OK {
		return "", api.ErrSystem
	}
	return terms.Text("system", m.Actions, m.States, func(edges []api.Edge) string {
		var line strings.Builder
		for _, e := range edges {
			line.WriteString(" " + m.Actions[e.Action] + " " + strconv.Itoa(e.To))
		}
		return line.String()
	}), api.OK
}

// Parse returns the system whose string is s, where the last line feed may be
// missing: ErrLarge if s is too long, ErrText if it is not such a string,
// ErrSystem if the system is not valid.
func Parse(s string) (api.System, api.Errno) {
	actions, states, e := terms.ParseText("system", s, parseState)
	if e != api.OK {
		return api.System{}, e
	}
	m := api.System{Actions: actions, States: states}
	if Check(m) != api.OK {
		return api.System{}, api.ErrSystem
	}
	return m, api.OK
}

// parseState reads the edges of a state.
func parseState(actions, words []string) ([]api.Edge, bool) {
	if len(words)%2 == 1 {
		return nil, false
	}
	var edges []api.Edge
	for i := 0; i < len(words); i += 2 {
		action, found, _ := act.Find(actions, words[i])
		to, ok := terms.ParseNumber(words[i+1])
		if !found || !ok {
			return nil, false
		}
		edges = append(edges, api.Edge{Action: action, To: to})
	}
	return edges, true
}
