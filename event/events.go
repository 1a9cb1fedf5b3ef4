package event

import (
	"cmp"
	"silkworm/api"
	"slices"
)

// events is a heap of the library, the first of their order on top. No two of them are of one From and Seq, so that the order leaves no choice, however the heap lies.
type events []api.Event

// Len is for the library.
func (l events) Len() int { return len(l) }

// Less is for the library.
func (l events) Less(i, k int) bool { return order(l[i], l[k]) < 0 }

// Swap is for the library.
func (l events) Swap(i, k int) { l[i], l[k] = l[k], l[i] }

// Push is for the library.
func (l *events) Push(e any) {
	*l = append(*l, e.(api.Event))
}

// Pop is for the library. What it takes is cleared, since its value would else be kept behind the list's end.
func (l *events) Pop() any {
	last := len(*l) - 1
	e := (*l)[last]
	(*l)[last] = api.Event{}
	*l = (*l)[:last]
	return e
}

// find is where the event of a number stands; below 0, if there is none. All are gone over: they are few, and a copy has nothing beside them to make anew.
func (l events) find(from, seq int) int {
	return slices.IndexFunc(l, func(e api.Event) bool { return e.From == from && e.Seq == seq })
}

// order is below 0, if one event comes ahead of another one.
func order(a, b api.Event) int {
	return cmp.Or(cmp.Compare(a.Time, b.Time), cmp.Compare(a.Node, b.Node), cmp.Compare(a.From, b.From), cmp.Compare(a.Seq, b.Seq))
}
