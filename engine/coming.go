package engine

import (
	"container/heap"
	"silkworm/api"
)

// coming is what is yet to come out of delays: a heap of the library, the soonest first. Which of one time is first does not matter, since each of them is another delay's.
type coming []api.Event

func (c coming) Len() int           { return len(c) }
func (c coming) Less(i, k int) bool { return c[i].Time < c[k].Time }
func (c coming) Swap(i, k int)      { c[i], c[k] = c[k], c[i] }

// Push is for the library.
func (c *coming) Push(e any) {
	*c = append(*c, e.(api.Event))
}

// Pop is for the library.
func (c *coming) Pop() any {
	last := len(*c) - 1
	e := (*c)[last]
	*c = (*c)[:last]
	return e
}

func (c *coming) put(e api.Event) {
	heap.Push(c, e)
}

// take is the next change that comes out at a time, if there is one.
func (c *coming) take(time int) (api.Event, bool) {
	if len(*c) == 0 || (*c)[0].Time != time {
		return api.Event{}, false
	}
	return heap.Pop(c).(api.Event), true
}
