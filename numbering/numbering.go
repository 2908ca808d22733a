// Package numbering numbers values in the order in which they first come, as
// several layers do with the states that they find.
package numbering

// A List has different values. The number of each is its place.
type List[V comparable] struct {
	Values  []V
	numbers map[V]int
}

// Of returns the list of some values, each once.
func Of[V comparable](values ...V) *List[V] {
	l := &List[V]{numbers: map[V]int{}}
	for _, v := range values {
		l.Number(v)
	}
	return l
}

// Number returns the number of a value, which becomes the last one of the list
// if it is not there.
func (l *List[V]) Number(v V) int {
	number, known := l.numbers[v]
	if !known {
		number = len(l.Values)
		l.numbers[v] = number
		l.Values = append(l.Values, v)
	}
	return number
}
