// Package act is layer 1, actions and sets of them: see shared/doc/01-act.md.
//
// Actions are a list of different names. A set of them is a number: bit a is
// set if action a is in it. All functions return ErrActions before any other
// error if the list is not one of actions.
package act

import (
	"errors"
	"iter"
	"math/bits"
	"slices"
	"strings"

	"makeweight/api"
)

var (
	errActions = errors.New("not a list of actions")
	errSet     = errors.New("not a set of the actions")
	errText    = errors.New("not the string of a set of the actions")
)

// Check returns OK if the list is one of actions, ErrActions otherwise.
func Check(actions []string) api.Errno {
	return code(checkActions(actions))
}

// Find returns the number of the action with the name, and true; false if
// there is none.
func Find(actions []string, name string) (int, bool, api.Errno) {
	if err := checkActions(actions); err != nil {
		return 0, false, code(err)
	}
	a := slices.Index(actions, name)
	if a < 0 {
		return 0, false, api.OK
	}
	return a, true, api.OK
}

// String returns the names of the actions of the set in order, separated by
// commas, in braces: ErrArg if it is not a set of the actions.
func String(actions []string, set int) (string, api.Errno) {
	if err := checkSets(actions, set); err != nil {
		return "", code(err)
	}
	names := make([]string, 0, len(actions))
	for a := range members(set) {
		names = append(names, actions[a])
	}
	return "{" + strings.Join(names, ",") + "}", api.OK
}

// Parse returns the set whose string is s: ErrText if it is none.
func Parse(actions []string, s string) (int, api.Errno) {
	if err := checkActions(actions); err != nil {
		return 0, code(err)
	}
	set, err := parse(actions, s)
	return set, code(err)
}

// List returns the numbers of the actions of the set in increasing order:
// ErrArg if it is not a set of the actions.
func List(actions []string, set int) ([]int, api.Errno) {
	if err := checkSets(actions, set); err != nil {
		return nil, code(err)
	}
	return slices.Collect(members(set)), api.OK
}

// Sets returns the elements of l in increasing order, each once: ErrArg if
// one of them is not a set of the actions.
func Sets(actions []string, l []int) ([]int, api.Errno) {
	if err := checkSets(actions, l...); err != nil {
		return nil, code(err)
	}
	// There are few sets, so a long l is marked, not copied and sorted.
	var marked [1 << api.MaxActions]bool
	for _, set := range l {
		marked[set] = true
	}
	var sets []int
	for set, in := range marked {
		if in {
			sets = append(sets, set)
		}
	}
	return sets, api.OK
}

// code returns the error code that the package's functions return for err.
func code(err error) api.Errno {
	switch {
	case errors.Is(err, errActions):
		return api.ErrActions
	case errors.Is(err, errSet):
		return api.ErrArg
	case errors.Is(err, errText):
		return api.ErrText
	}
	return api.OK
}

func checkActions(actions []string) error {
	// The length comes first: it bounds the work that the names cause.
	if len(actions) > api.MaxActions {
		return errActions
	}
	for a, name := range actions {
		if !isName(name) || slices.Contains(actions[:a], name) {
			return errActions
		}
	}
	return nil
}

func checkSets(actions []string, sets ...int) error {
	if err := checkActions(actions); err != nil {
		return err
	}
	for _, set := range sets {
		if set < 0 || set >= 1<<len(actions) {
			return errSet
		}
	}
	return nil
}

func isName(s string) bool {
	if len(s) == 0 || len(s) > api.MaxName || !isLetter(s[0]) {
		return false
	}
	for i := range len(s) {
		if !isNameByte(s[i]) {
			return false
		}
	}
	return true
}

func isLetter(b byte) bool {
	return 'a' <= b && b <= 'z' || 'A' <= b && b <= 'Z'
}

func isNameByte(b byte) bool {
	return isLetter(b) || '0' <= b && b <= '9' || b == '-' || b == '_'
}

// parse is Parse for a list of actions.
func parse(actions []string, s string) (int, error) {
	inner, opened := strings.CutPrefix(s, "{")
	inner, closed := strings.CutSuffix(inner, "}")
	if !opened || !closed {
		return 0, errText
	}
	if inner == "" {
		return 0, nil
	}
	set, next := 0, 0
	for name := range strings.SplitSeq(inner, ",") {
		// Only later actions are looked at: names are in order, each once.
		skipped := slices.Index(actions[next:], name)
		if skipped < 0 {
			return 0, errText
		}
		set |= 1 << (next + skipped)
		next += skipped + 1
	}
	return set, nil
}

// members yields the numbers of the actions of a set in increasing order.
func members(set int) iter.Seq[int] {
	return func(yield func(int) bool) {
		for rest := uint(set); rest != 0; rest &= rest - 1 {
			if !yield(bits.TrailingZeros(rest)) {
				return
			}
		}
	}
}
