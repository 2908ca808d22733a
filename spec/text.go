package spec

import (
	"slices"
	"strconv"
	"strings"

	"makeweight/act"
	"makeweight/api"
	"makeweight/steps"
	"makeweight/terms"
)

// String returns the string of s: a line with the actions, and one for each
// state with the sets that it accepts and the actions that lead on.
func String(s api.Spec) (string, api.Errno) {
	if Check(s) != api.OK {
		return "", api.ErrSpec
	}
	return terms.Text("spec", s.Actions, s.States, func(state api.State) string {
		var line strings.Builder
		for _, set := range state.Accept {
			// A valid specification has sets of its actions alone.
			braced, _ := act.String(s.Actions, set)
			line.WriteString(" " + braced)
		}
		line.WriteString(" ->")
		for action, to := range state.Next {
			if to != steps.Nowhere {
				line.WriteString(" " + s.Actions[action] + " " + strconv.Itoa(to))
			}
		}
		return line.String()
	}), api.OK
}

// Parse returns the specification whose string is text, where the last line
// feed may be missing: ErrLarge if text is too long, ErrText if it is not such
// a string, ErrSpec if the specification is not valid.
func Parse(text string) (api.Spec, api.Errno) {
	actions, states, e := terms.ParseText("spec", text, parseState)
	if e != api.OK {
		return api.Spec{}, e
	}
	s := api.Spec{Actions: actions, States: states}
	if Check(s) != api.OK {
		return api.Spec{}, api.ErrSpec
	}
	return s, api.OK
}

// A part of a line is what its next word may be.
type part int

const (
	atSet    part = iota // a set, or the arrow
	atAction             // the name of an action; the line may also end
	atTarget             // the state to which the action leads
)

// A reader reads a state, word by word.
type reader struct {
	actions []string
	at      part
	action  int // the last one that was read, -1 if there is none
	state   api.State
}

// readers returns for each part of a line what reads a word there.
func readers() map[part]func(r *reader, word string) bool {
	return map[part]func(r *reader, word string) bool{
		atSet:    (*reader).readSet,
		atAction: (*reader).readAction,
		atTarget: (*reader).readTarget,
	}
}

// parseState reads the sets that a state accepts, and the actions that lead on.
func parseState(actions, words []string) (api.State, bool) {
	next := slices.Repeat([]int{steps.Nowhere}, len(actions))
	r := &reader{actions: actions, action: -1, state: api.State{Next: next}}
	read := readers()
	for _, word := range words {
		if !read[r.at](r, word) {
			return api.State{}, false
		}
	}
	return r.state, r.at == atAction
}

func (r *reader) readSet(word string) bool {
	if word == "->" {
		r.at = atAction
		return true
	}
	set, e := act.Parse(r.actions, word)
	r.state.Accept = append(r.state.Accept, set)
	return e == api.OK
}

func (r *reader) readAction(word string) bool {
	action, found, _ := act.Find(r.actions, word)
	if !found || action <= r.action {
		return false
	}
	r.action, r.at = action, atTarget
	return true
}

func (r *reader) readTarget(word string) bool {
	to, ok := terms.ParseNumber(word)
	r.state.Next[r.action], r.at = to, atAction
	return ok
}
