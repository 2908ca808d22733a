package system_test

import (
	"fmt"
	"slices"
	"testing"

	"makeweight/api"
	"makeweight/system"
)

// calls calls all functions that take systems but Check and Same, with m as
// each argument, and returns their results as strings, and their errors.
func calls(m, n api.System, state int, word []int) (map[string]string, map[string]api.Errno) {
	results, errors := map[string]string{}, map[string]api.Errno{}
	add := func(name string, e api.Errno, l ...any) {
		results[name], errors[name] = fmt.Sprint(l...), e
	}
	s, e := system.String(m)
	add("String", e, s)
	set, e := system.Offer(m, state)
	add("Offer", e, set)
	l, e := system.After(m, word)
	add("After", e, l)
	p, l, e := system.Part(m, state)
	add("Part", e, p, l)
	p, l, e = system.Least(m)
	add("Least", e, p, l)
	for name, pair := range map[string][2]api.System{"": {m, n}, ", turned": {n, m}} {
		p, pairs, e := system.Product(pair[0], pair[1])
		add("Product"+name, e, p, pairs)
		is, e := system.Alike(pair[0], pair[1])
		add("Alike"+name, e, is)
	}
	return results, errors
}

// zeros are the results of all calls with an error, as calls returns them.
func zeros() map[string]string {
	const none = "{[] []} []"
	return map[string]string{
		"String": "", "Offer": "0", "After": "[]", "Part": none, "Least": none,
		"Product": none, "Product, turned": none, "Alike": "false", "Alike, turned": "false",
	}
}

// P1, R2 and R4: systems that are not valid, ahead of all other errors.

func TestErrSystemFirst(t *testing.T) {
	for why, m := range badSystems() {
		// The other system has other actions, and the numbers are wrong for
		// each system.
		for _, n := range []api.System{tea(), build("x y z", nil), m} {
			for _, state := range []int{0, -1, 1 << 40} {
				results, errors := calls(m, n, state, []int{-1})
				for name, zero := range zeros() {
					if results[name] != zero || errors[name] != api.ErrSystem {
						t.Errorf("%s: %s = %.100s %d, want %s ErrSystem", why, name, results[name], errors[name], zero)
					}
				}
			}
		}
	}
}

func TestErrActionsBehindErrSystem(t *testing.T) {
	large := full(600)
	for _, names := range []string{"", "coin", "tea", "tea coin", "coin Tea", "coin tea milk", "a b"} {
		m, n := tea(), build(names, nil)
		if names != "" {
			// The product would be too large.
			m.States, n.States = large.States, large.States
		}
		for _, pair := range [][2]api.System{{m, n}, {n, m}} {
			p, pairs, e := system.Product(pair[0], pair[1])
			same(t, names, p, api.System{})
			if len(pairs) != 0 || e != api.ErrActions {
				t.Errorf("%q: Product = %d pairs, %d, want ErrActions", names, len(pairs), e)
			}
			if is, e := system.Alike(pair[0], pair[1]); is || e != api.ErrActions {
				t.Errorf("%q: Alike = %v %d, want ErrActions", names, is, e)
			}
		}
	}
}

// R5: memory.

func TestArgumentsAreNotModified(t *testing.T) {
	for _, m := range append(systems(), ring(500), blown(chain(20, 4), 3)) {
		n := clone(m)
		// There is room behind each slice, into which nothing may be written.
		roomy := roomyClone(m)
		numbers := []int{0, 0, 0, 7, 7}
		word := numbers[:3]
		if len(m.Actions) == 0 {
			word = numbers[:0]
		}
		system.Check(roomy)
		system.Same(roomy, n)
		calls(roomy, n, 0, word)
		calls(n, roomy, len(m.States)-1, word)
		same(t, "the first argument", roomy, m)
		same(t, "the second argument", n, m)
		if !slices.Equal(numbers, []int{0, 0, 0, 7, 7}) {
			t.Errorf("the word became %v", numbers)
		}
		for _, edges := range roomy.States {
			if room := edges[:cap(edges)]; len(room) > len(edges) && room[len(edges)] != (api.Edge{Action: 77, To: 77}) {
				t.Errorf("%v was written behind some edges", room[len(edges)])
			}
		}
		if room := roomy.Actions[:len(m.Actions)+1]; room[len(m.Actions)] != "room" {
			t.Errorf("%q was written behind the actions", room[len(m.Actions)])
		}
	}
}

// roomyClone returns a clone of m with room behind its slices.
func roomyClone(m api.System) api.System {
	c := clone(m)
	c.Actions = append(c.Actions, "room")[:len(c.Actions)]
	for state, edges := range c.States {
		c.States[state] = append(edges, api.Edge{Action: 77, To: 77})[:len(edges)]
	}
	return c
}

// spoil writes into all memory of a system, also into what is behind its
// slices.
func spoil(m api.System) {
	for _, edges := range m.States[:cap(m.States)] {
		edges = edges[:cap(edges)]
		for i := range edges {
			edges[i] = api.Edge{Action: 55, To: 55}
		}
	}
	m.States = m.States[:cap(m.States)]
	for state := range m.States {
		m.States[state] = nil
	}
	m.Actions = m.Actions[:cap(m.Actions)]
	for a := range m.Actions {
		m.Actions[a] = "spoilt"
	}
}

func spoilNumbers(l []int) {
	l = l[:cap(l)]
	for i := range l {
		l[i] = 55
	}
}

// TestResultsAreNewMemory spoils each result, and finds the arguments and the
// other results as they were.
func TestResultsAreNewMemory(t *testing.T) {
	for _, m := range append(systems(), ring(40), blown(chain(5, 2), 3)) {
		n := clone(m)
		before, _ := calls(m, n, 0, nil)
		part, numbers, _ := system.Part(m, 0)
		least, class, _ := system.Least(m)
		product, pairs, _ := system.Product(m, n)
		states, _ := system.After(m, nil)
		for _, p := range []api.System{part, least, product} {
			spoil(p)
		}
		if s := fmt.Sprint(numbers, class, pairs); s != resultLists(n) {
			t.Errorf("%s: lists share memory with systems: %s", show(m), s)
		}
		spoilNumbers(numbers)
		spoilNumbers(class)
		spoilNumbers(states)
		clear(pairs[:cap(pairs)])
		same(t, "the first argument", m, n)
		after, _ := calls(m, n, 0, nil)
		for name := range zeros() {
			if before[name] != after[name] {
				t.Errorf("%s: %s = %s, then %s", show(n), name, before[name], after[name])
			}
		}
	}
}

func resultLists(m api.System) string {
	_, numbers, _ := system.Part(m, 0)
	_, class, _ := system.Least(m)
	_, pairs, _ := system.Product(m, m)
	return fmt.Sprint(numbers, class, pairs)
}

// TestRowsShareNoMemory writes behind the edges of each state of a result, and
// finds those of the other states as they were.
func TestRowsShareNoMemory(t *testing.T) {
	for _, m := range append(systems(), ring(40), full(9), blown(chain(5, 2), 3)) {
		part, _, _ := system.Part(m, 0)
		least, _, _ := system.Least(m)
		product, _, _ := system.Product(m, m)
		text, _ := system.String(m)
		parsed, _ := system.Parse(text)
		for what, p := range map[string]api.System{"Part": part, "Least": least, "Product": product, "Parse": parsed} {
			saved := clone(p)
			for state := range p.States {
				_ = append(p.States[state], api.Edge{Action: 55, To: 55})
			}
			same(t, what, p, saved)
		}
	}
}

func TestArgumentsAreNotKept(t *testing.T) {
	for _, m := range append(systems(), ring(40), blown(chain(5, 2), 3)) {
		n := clone(m)
		part, _, _ := system.Part(n, 0)
		least, _, _ := system.Least(n)
		product, _, _ := system.Product(n, clone(m))
		l := []api.System{clone(part), clone(least), clone(product)}
		spoil(n)
		for i, p := range []api.System{part, least, product} {
			same(t, []string{"Part", "Least", "Product"}[i], p, l[i])
		}
	}
}

// R8: the same arguments give the same results.

func TestSameArgumentsSameResults(t *testing.T) {
	l := systems()
	for _, m := range l {
		first, _ := calls(m, m, 0, nil)
		calls(l[0], l[0], 1, []int{0})
		for range 3 {
			again, _ := calls(clone(m), clone(m), 0, nil)
			for name := range zeros() {
				if first[name] != again[name] {
					t.Errorf("%s: %s = %s, then %s", show(m), name, first[name], again[name])
				}
			}
		}
	}
}
