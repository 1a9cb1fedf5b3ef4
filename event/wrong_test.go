package event_test

import (
	"silkworm/api"
	"silkworm/event"
	"testing"
)

func TestEv1PutTimes(t *testing.T) {
	for _, time := range []int{0, 1, 2, 1 << 31, 1 << 32, 1 << 61, api.MaxTime - 1, api.MaxTime} {
		q := queue(t, 1)
		puts(t, q, ev(time, 0, 0, 0), api.OK)
		gives(t, q, ev(time, 0, 0, 0))
	}
	for time, want := range map[int]api.Errno{-1: api.ErrArg, -2: api.ErrArg, -1 << 32: api.ErrArg, -api.MaxTime: api.ErrArg, least: api.ErrArg, api.MaxTime + 1: api.ErrTime, api.MaxTime + 2: api.ErrTime, 1<<62 + 1<<61: api.ErrTime, most: api.ErrTime} {
		q := queue(t, 1)
		puts(t, q, ev(time, 0, 0, 0), want)
		empty(t, q)
		puts(t, q, ev(5, 0, 0, 0), api.OK)
		puts(t, q, ev(time, 0, 0, 1), want)
		gives(t, q, ev(5, 0, 0, 0))
	}
}

func TestEv1PutAnti(t *testing.T) {
	for _, e := range []api.Event{ev(0, 0, 0, 0), ev(5, 1, 2, 3), ev(-1, 0, 0, 0), ev(most, 0, 0, 0), ev(api.MaxTime, most, most, most), {}} {
		e.Anti = true
		q := holding(t, 2, ev(4, 0, 2, 1))
		puts(t, q, e, api.ErrArg)
		gives(t, q, ev(4, 0, 2, 1))
		puts(t, q, e, api.ErrArg)
		empty(t, q)
	}
	// One that is Anti does not take back what is there.
	q := holding(t, 2, ev(4, 0, 2, 1))
	e := ev(4, 0, 2, 1)
	e.Anti = true
	puts(t, q, e, api.ErrArg)
	gives(t, q, ev(4, 0, 2, 1))
}

// An event is told apart by its From and its Seq, by both and by nothing else.
func TestEv1PutTwice(t *testing.T) {
	first := api.Event{Time: 4, Node: 3, Value: "0", From: 2, Seq: 1}
	for _, e := range []api.Event{first, {From: 2, Seq: 1}, {Time: 9, Node: 3, Value: "0", From: 2, Seq: 1}, {Time: 4, Node: 9, Value: "0", From: 2, Seq: 1}, {Time: 4, Node: 3, Value: "1", From: 2, Seq: 1}, {Time: api.MaxTime, From: 2, Seq: 1}} {
		q := holding(t, 9, first)
		puts(t, q, e, api.ErrArg)
		gives(t, q, first)
	}
	for _, e := range []api.Event{{Time: 4, Node: 3, Value: "0", From: 2, Seq: 2}, {Time: 4, Node: 3, Value: "0", From: 3, Seq: 1}, {Time: 4, Node: 3, Value: "0", From: 2 + 1<<32, Seq: 1}, {Time: 4, Node: 3, Value: "0", From: 2, Seq: 1 + 1<<32}} {
		gives(t, holding(t, 9, first, e), first, e)
	}
	for _, e := range []api.Event{{Time: 4, Node: 3, Value: "0", From: 1, Seq: 2}, {Time: 4, Node: 3, Value: "0", From: 2, Seq: -1}, {Time: 4, Node: 3, Value: "0", From: -2, Seq: 1}, {Time: 4, Node: 3, Value: "0"}} {
		gives(t, holding(t, 9, first, e), e, first)
	}
	// Wherever the other one lies.
	q := queue(t, 100)
	for i := range 100 {
		puts(t, q, ev(100-i, 0, i%7, i/7), api.OK)
		for k := range i + 1 {
			puts(t, q, ev(200, 0, k%7, k/7), api.ErrArg)
		}
	}
}

// R2: of several errors the one that the chapter names first.
func TestEv1FirstError(t *testing.T) {
	anti := func(e api.Event) api.Event {
		e.Anti = true
		return e
	}
	there := ev(4, 0, 2, 1)
	full, room := holding(t, 1, there), holding(t, 2, there)
	for _, q := range []*event.Queue{full, room} {
		for _, c := range []struct {
			e    api.Event
			want api.Errno
		}{
			{ev(-1, 0, 0, 0), api.ErrArg}, {anti(ev(5, 0, 0, 0)), api.ErrArg}, {ev(5, 0, 2, 1), api.ErrArg}, {anti(ev(-1, 0, 2, 1)), api.ErrArg},
			{anti(ev(most, 0, 0, 0)), api.ErrArg}, {ev(most, 0, 2, 1), api.ErrArg}, {ev(api.MaxTime+1, 0, 2, 1), api.ErrArg}, {anti(ev(most, 0, 2, 1)), api.ErrArg},
			{ev(most, 0, 0, 0), api.ErrTime}, {ev(api.MaxTime+1, 0, 2, 2), api.ErrTime}, {ev(api.MaxTime+1, 0, 1, 1), api.ErrTime},
		} {
			puts(t, q, c.e, c.want)
			has(t, q, there)
		}
	}
	puts(t, full, ev(api.MaxTime, 0, 0, 0), api.ErrQueue)
	puts(t, room, ev(api.MaxTime, 0, 0, 0), api.OK)
}

// R2: what was refused is not there: its number is free, and no place is used up.
func TestEv1RefusedChangesNothing(t *testing.T) {
	q := queue(t, 2)
	for i := range 10 {
		puts(t, q, ev(-1, 0, 0, 1), api.ErrArg)
		puts(t, q, api.Event{Anti: true, Seq: 1}, api.ErrArg)
		puts(t, q, ev(most, 0, 0, 1), api.ErrTime)
		cancels(t, q, 0, 1, false)
		if q.Len() != 0 {
			t.Fatal(i, q.Len())
		}
	}
	puts(t, q, ev(7, 0, 0, 1), api.OK)
	puts(t, q, ev(6, 0, 0, 2), api.OK)
	for range 10 {
		puts(t, q, ev(5, 0, 0, 3), api.ErrQueue)
	}
	cancels(t, q, 0, 3, false)
	has(t, q, ev(6, 0, 0, 2), ev(7, 0, 0, 1))
	takes(t, q, ev(6, 0, 0, 2))
	puts(t, q, ev(5, 0, 0, 3), api.OK)
	gives(t, q, ev(5, 0, 0, 3), ev(7, 0, 0, 1))
}

// nothing tells that a queue is none that New and Copy gave.
func nothing(t *testing.T, q *event.Queue) {
	t.Helper()
	for _, e := range []api.Event{{}, ev(1, 2, 3, 4), ev(most, 0, 0, 0), ev(-1, 0, 0, 0), {Anti: true}} {
		puts(t, q, e, api.ErrArg)
	}
	cancels(t, q, 0, 0, false)
	cancels(t, q, 3, 4, false)
	cancels(t, q, 0, 1, false)
	if q.Copy() != nil {
		t.Fatal("a copy")
	}
	empty(t, q)
}

func TestR1NoQueue(t *testing.T) {
	nothing(t, nil)
	nothing(t, &event.Queue{})
	nothing(t, new(event.Queue))
	q, _ := event.New(0)
	nothing(t, q)
	nothing(t, (&event.Queue{}).Copy())
}

// One that was copied by assignment would share its events with the other one: New and Copy did not give it.
func TestR1QueueByAssignment(t *testing.T) {
	q := holding(t, 4, ev(5, 0, 0, 1), ev(3, 0, 0, 2))
	other := *q
	nothing(t, &other)
	has(t, q, ev(3, 0, 0, 2), ev(5, 0, 0, 1))
	takes(t, q, ev(3, 0, 0, 2))
	nothing(t, &other)
	k := q.Copy()
	*k = *q
	nothing(t, k)
	gives(t, q, ev(5, 0, 0, 1))
}

func TestR3EventsHandedIn(t *testing.T) {
	bytes := []byte("01")
	e := api.Event{Time: 3, Value: string(bytes)}
	q := holding(t, 2, e)
	e.Time, e.Value, bytes[0] = 1, "x", 'z'
	got, _ := q.Min()
	if got != (api.Event{Time: 3, Value: "01"}) {
		t.Error(got)
	}
	got.Time, got.Value = 9, "z"
	gives(t, q, api.Event{Time: 3, Value: "01"})
}

// R4: the same calls, the same answers; one queue does not know of another one.
func TestR4QueuesAlone(t *testing.T) {
	a, b := queue(t, 2), queue(t, 2)
	puts(t, a, ev(3, 0, 0, 1), api.OK)
	empty(t, b)
	puts(t, b, ev(4, 0, 0, 1), api.OK)
	cancels(t, b, 0, 1, true)
	has(t, a, ev(3, 0, 0, 1))
	for range 3 {
		gives(t, holding(t, 3, ev(2, 0, 0, 1), ev(2, 0, 0, 3), ev(2, 0, 0, 2)), ev(2, 0, 0, 1), ev(2, 0, 0, 2), ev(2, 0, 0, 3))
	}
}
