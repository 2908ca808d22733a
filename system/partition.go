package system

// A partition divides states into classes, and the classes into groups.
type partition struct {
	order   []int // the states, those of a class side by side
	place   []int // where in order a state is
	classOf []int
	classes []class
	groups  [][]int // the classes of each group
	loose   []int   // the groups with several classes
}

// A class is the states in a part of the order; some of the first ones may be
// marked.
type class struct {
	from, end, marked int
	group             int
}

func (c class) size() int {
	return c.end - c.from
}

// newPartition returns the partition in which all states are one class.
func newPartition(states int) partition {
	p := partition{
		place:   make([]int, states),
		classOf: make([]int, states),
		classes: []class{{end: states}},
		groups:  [][]int{{0}},
	}
	for state := range states {
		p.order = append(p.order, state)
		p.place[state] = state
	}
	return p
}

// split splits each class into the states that are in the list, and those that
// are not. The states of the list are different.
func (p *partition) split(states []int) {
	var touched []int
	for _, state := range states {
		if p.mark(state) == 1 {
			touched = append(touched, p.classOf[state])
		}
	}
	for _, number := range touched {
		p.splitClass(number)
	}
}

// mark marks a state, and returns how many marked ones its class then has.
func (p *partition) mark(state int) int {
	c := &p.classes[p.classOf[state]]
	here, there := p.place[state], c.from+c.marked
	other := p.order[there]
	p.order[here], p.order[there] = other, state
	p.place[other], p.place[state] = here, there
	c.marked++
	return c.marked
}

// splitClass makes the marked states of a class one of their own, unless all
// of them are marked.
func (p *partition) splitClass(number int) {
	c := &p.classes[number]
	marked := class{from: c.from, end: c.from + c.marked, group: c.group}
	c.marked = 0
	if marked.size() == c.size() {
		return
	}
	c.from = marked.end
	for _, state := range p.order[marked.from:marked.end] {
		p.classOf[state] = len(p.classes)
	}
	if len(p.groups[c.group]) == 1 {
		p.loose = append(p.loose, c.group)
	}
	p.groups[c.group] = append(p.groups[c.group], len(p.classes))
	p.classes = append(p.classes, marked)
}

// divideGroup makes a class with at most half of the states of a loose group a
// group of its own. It returns the old group, the new one, and its states: the
// part of the order with them, in which they stay when the class is split.
func (p *partition) divideGroup() (from, into int, states []int) {
	from, into = p.loose[len(p.loose)-1], len(p.groups)
	numbers := p.groups[from]
	last := len(numbers) - 1
	// The smaller one of two classes has at most half of the states.
	if p.classes[numbers[last]].size() > p.classes[numbers[last-1]].size() {
		numbers[last-1], numbers[last] = numbers[last], numbers[last-1]
	}
	number := numbers[last]
	p.groups[from] = numbers[:last]
	if last == 1 {
		p.loose = p.loose[:len(p.loose)-1]
	}
	p.groups = append(p.groups, []int{number})
	c := &p.classes[number]
	c.group = into
	return from, into, p.order[c.from:c.end]
}
