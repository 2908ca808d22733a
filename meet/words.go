package meet

import (
	"makeweight/api"
	"makeweight/pairs"
	"makeweight/steps"
)

// A tree has a node for each beginning of some words that must not be done.
type tree []node

// A node stands for a beginning of words, or for none.
type node struct {
	last int                 // the set of the actions with which a word would be done
	next [api.MaxActions]int // the nodes of beginnings that are longer by an action
}

// The first nodes of each tree.
const (
	elsewhere = iota // behind what begins no word
	root             // the empty beginning
	nodes
)

// sideWithout returns the side that allows everything but the words, none of
// which is empty. Those that cannot be done in s anyway have no nodes.
func sideWithout(words [][]int, s api.Spec) pairs.Side {
	t := make(tree, nodes)
	first := elsewhere
	for _, word := range words {
		if _, there := steps.After(s, word); there {
			t.add(word)
			first = root
		}
	}
	return pairs.Side{
		First:  first,
		Accept: func(at int) []int { return t.allowed(at, len(s.Actions)) },
		Lead:   func(at, action int) int { return t[at].next[action] },
	}
}

func (t *tree) add(word []int) {
	at := root
	last := len(word) - 1
	for _, action := range word[:last] {
		at = t.longer(at, action)
	}
	(*t)[at].last |= 1 << word[last]
}

// longer returns the node of a beginning with one more action, which is a new
// one the first time.
func (t *tree) longer(at, action int) int {
	next := (*t)[at].next[action]
	if next == elsewhere {
		next = len(*t)
		(*t)[at].next[action] = next
		*t = append(*t, node{})
	}
	return next
}

// allowed returns the sets of so many actions with which no word is done.
func (t tree) allowed(at, actions int) []int {
	var sets []int
	for set := range 1 << actions {
		if set&t[at].last == 0 {
			sets = append(sets, set)
		}
	}
	return sets
}
