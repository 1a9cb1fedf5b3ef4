package event_test

import (
	"silkworm/api"
	"silkworm/event"
	"slices"
	"strings"
	"testing"
)

func TestEv1New(t *testing.T) {
	for _, limit := range []int{1, 2, 3, 64, 4095, 4096, api.MaxQueue} {
		q := queue(t, limit)
		empty(t, q)
		empty(t, q.Copy())
		cancels(t, q, 0, 0, false)
	}
	for _, limit := range []int{0, -1, least, 4097, api.MaxQueue + 1, 1 << 32, 1<<32 + 1, most} {
		if q, e := event.New(limit); q != nil || e != api.ErrArg {
			t.Errorf("New(%d): %v, %d", limit, q, e)
		}
	}
}

func TestEv1Example(t *testing.T) {
	gives(t, holding(t, 3, ev(5, 0, 0, 0), ev(3, 0, 0, 1), ev(4, 0, 0, 2)), ev(3, 0, 0, 1), ev(4, 0, 0, 2), ev(5, 0, 0, 0))
}

// What is told of an event is all that was put of it.
func TestEv1WholeEvents(t *testing.T) {
	for _, e := range []api.Event{
		{}, {Time: 7}, {Node: 7}, {Value: "7"}, {From: 7}, {Seq: 7}, {Time: 1, Node: 2, Value: "01xz", From: 3, Seq: 4},
		{Value: strings.Repeat("x", 256)}, {Value: "no vector \x00\xff"}, {Value: strings.Repeat("z", 5000)},
		{Time: api.MaxTime, Node: most, From: most, Seq: most}, {Node: least, From: least, Seq: least}, {Node: -1, From: -1, Seq: -1},
	} {
		q := holding(t, 1, e)
		has(t, q, e)
		gives(t, q, e)
	}
}

func TestEv1MinLeavesIt(t *testing.T) {
	q := holding(t, 4, ev(2, 0, 0, 1), ev(1, 0, 0, 2))
	for range 5 {
		if e, ok := q.Min(); e != ev(1, 0, 0, 2) || !ok || q.Len() != 2 {
			t.Fatal(e, ok, q.Len())
		}
	}
	takes(t, q, ev(1, 0, 0, 2))
	takes(t, q, ev(2, 0, 0, 1))
	empty(t, q)
	puts(t, q, ev(9, 0, 0, 1), api.OK)
	gives(t, q, ev(9, 0, 0, 1))
}

func TestEv1Len(t *testing.T) {
	q := queue(t, 4096)
	for i := range 4096 {
		if q.Len() != i {
			t.Fatalf("Len: %d, not %d", q.Len(), i)
		}
		puts(t, q, ev(i*7919%4096, 0, i%3, i), api.OK)
	}
	for i := 4096; i > 0; i-- {
		if q.Len() != i {
			t.Fatalf("Len: %d, not %d", q.Len(), i)
		}
		if i%2 == 0 {
			q.Take()
		} else if e, _ := q.Min(); !q.Cancel(e.From, e.Seq) {
			t.Fatal(e)
		}
	}
	empty(t, q)
}

// Each number counts only where those ahead of it are the same.
func TestEv2Order(t *testing.T) {
	list := []api.Event{
		ev(0, 9, 9, 9), ev(1, least, 9, 8), ev(1, -1, 0, 5), ev(1, 0, least, 7), ev(1, 0, -1, 7), ev(1, 0, 0, least), ev(1, 0, 0, -1), ev(1, 0, 0, 0), ev(1, 0, 0, 1), ev(1, 0, 0, most),
		ev(1, 0, 1, least), ev(1, 0, 1, 2), ev(1, 0, most, 0), ev(1, 1, -9, -9), ev(1, most, least, least), ev(2, 0, 0, 3), ev(10, 0, 0, 2), ev(api.MaxTime-1, 0, 0, 4), ev(api.MaxTime, least, least, -5), ev(api.MaxTime, most, most, most),
	}
	gives(t, holding(t, len(list), list...), list...)
	back := slices.Clone(list)
	slices.Reverse(back)
	gives(t, holding(t, len(list), back...), list...)
	for i, a := range list {
		for _, b := range list[i+1:] {
			gives(t, holding(t, 2, a, b), a, b)
			gives(t, holding(t, 2, b, a), a, b)
		}
	}
}

// Values, and when an event was put, do not count.
func TestEv2NothingElseCounts(t *testing.T) {
	a, b, c := ev(4, 2, 1, 1), ev(4, 2, 1, 2), ev(4, 2, 1, 3)
	a.Value, b.Value, c.Value = "z", "1", "0"
	orders([]api.Event{a, b, c}, func(list []api.Event) {
		gives(t, holding(t, 3, list...), a, b, c)
	})
}

func TestEv1Cancel(t *testing.T) {
	q := holding(t, 9, ev(3, 1, 1, 2), ev(1, 1, 2, 1), ev(2, 1, 2, 2))
	for _, c := range [][2]int{{1, 1}, {2, 3}, {0, 0}, {1, -2}, {-1, 2}, {3, 1}, {least, most}, {1 + 1<<32, 2}, {1, 2 + 1<<32}} {
		cancels(t, q, c[0], c[1], false)
		has(t, q, ev(1, 1, 2, 1), ev(2, 1, 2, 2), ev(3, 1, 1, 2))
	}
	cancels(t, q, 2, 2, true)
	cancels(t, q, 2, 2, false)
	has(t, q, ev(1, 1, 2, 1), ev(3, 1, 1, 2))
	cancels(t, q, 2, 1, true)
	has(t, q, ev(3, 1, 1, 2))
	cancels(t, q, 1, 2, true)
	cancels(t, q, 1, 2, false)
	empty(t, q)
}

func TestEv1CancelWhatIsTaken(t *testing.T) {
	q := holding(t, 2, ev(3, 0, 0, 1), ev(4, 0, 0, 2))
	takes(t, q, ev(3, 0, 0, 1))
	cancels(t, q, 0, 1, false)
	gives(t, q, ev(4, 0, 0, 2))
	cancels(t, q, 0, 2, false)
}

// Wherever an event lies, the others come as they would without it.
func TestEv1CancelAnywhere(t *testing.T) {
	for count := 1; count < 40; count++ {
		var list []api.Event
		for i := range count {
			list = append(list, ev(i*29%count, i%4, i%3, i))
		}
		q := holding(t, count, list...)
		for i, e := range list {
			c := q.Copy()
			cancels(t, c, e.From, e.Seq, true)
			rest := slices.Delete(slices.Clone(list), i, i+1)
			slices.SortFunc(rest, func(a, b api.Event) int {
				if ahead(a, b) {
					return -1
				}
				return 1
			})
			gives(t, c, rest...)
		}
	}
}

// An event that went out may be put again, and its place is free for another one.
func TestEv1PutAgain(t *testing.T) {
	q := holding(t, 1, ev(3, 0, 1, 1))
	puts(t, q, ev(4, 0, 1, 1), api.ErrArg)
	takes(t, q, ev(3, 0, 1, 1))
	puts(t, q, ev(4, 0, 1, 1), api.OK)
	cancels(t, q, 1, 1, true)
	puts(t, q, ev(2, 0, 1, 1), api.OK)
	puts(t, q, ev(2, 0, 1, 2), api.ErrQueue)
	gives(t, q, ev(2, 0, 1, 1))
	// A time that is behind those that were taken may be put.
	puts(t, q, ev(0, 0, 1, 2), api.OK)
	gives(t, q, ev(0, 0, 1, 2))
}

func TestEv1Full(t *testing.T) {
	for _, limit := range []int{1, 2, 3, 7, 64, 4095, 4096} {
		q := queue(t, limit)
		for i := range limit {
			puts(t, q, ev(limit-i, 0, 0, i), api.OK)
		}
		for _, e := range []api.Event{ev(0, 0, 0, limit), ev(0, 0, 1, 0), ev(api.MaxTime, 0, 0, -1)} {
			puts(t, q, e, api.ErrQueue)
		}
		if q.Len() != limit {
			t.Errorf("%d of %d", q.Len(), limit)
		}
		takes(t, q, ev(1, 0, 0, limit-1))
		puts(t, q, ev(0, 0, 0, limit), api.OK)
		puts(t, q, ev(0, 0, 0, limit+1), api.ErrQueue)
		cancels(t, q, 0, 0, limit > 1)
		if limit > 1 {
			puts(t, q, ev(0, 0, 0, limit+1), api.OK)
		}
		puts(t, q, ev(0, 0, 0, limit+2), api.ErrQueue)
		takes(t, q, ev(0, 0, 0, limit))
	}
}

func TestEv1Copy(t *testing.T) {
	a, b, c, d := ev(1, 0, 0, 1), ev(2, 0, 0, 2), ev(3, 0, 0, 3), ev(4, 0, 0, 4)
	q := holding(t, 3, c, b)
	k := q.Copy()
	puts(t, q, a, api.OK)
	has(t, k, b, c)
	puts(t, k, d, api.OK)
	has(t, q, a, b, c)
	puts(t, q, d, api.ErrQueue)
	puts(t, k, a, api.ErrQueue)
	cancels(t, q, 0, 3, true)
	has(t, k, b, c, d)
	takes(t, k, b)
	has(t, q, a, b)
	cancels(t, k, 0, 2, false)
	cancels(t, k, 0, 1, false)
	puts(t, q, c, api.OK)
	puts(t, k, b, api.OK)
	gives(t, k, b, c, d)
	has(t, q, a, b, c)
	gives(t, q, a, b, c)
	empty(t, k)
}

// A copy is as its queue was then, whatever becomes of the queue, and of copies of it.
func TestEv1CopyOfCopy(t *testing.T) {
	var kept []*event.Queue
	q := queue(t, 20)
	for i := range 20 {
		kept = append(kept, q.Copy())
		puts(t, q, ev(20-i, 0, 0, i), api.OK)
		q = q.Copy()
	}
	for range 20 {
		kept = append(kept, q.Copy())
		q.Take()
	}
	empty(t, q)
	for i, k := range kept {
		var want []api.Event
		for n := range 20 {
			if i < 20 && n < i || i >= 20 && n < 40-i {
				want = append(want, ev(20-n, 0, 0, n))
			}
		}
		slices.Reverse(want)
		gives(t, k, want...)
	}
}
