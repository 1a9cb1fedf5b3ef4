package event_test

import (
	"silkworm/api"
	"silkworm/event"
	"slices"
	"testing"
)

const (
	least = -1 << 63
	most  = 1<<63 - 1
)

// ev is an event by its numbers, in the order in which they count.
func ev(time, node, from, seq int) api.Event {
	return api.Event{Time: time, Node: node, Value: "1", From: from, Seq: seq}
}

// queue is an empty one for so many events.
func queue(t *testing.T, limit int) *event.Queue {
	t.Helper()
	q, e := event.New(limit)
	if e != api.OK || q == nil {
		t.Fatalf("New(%d): %v, %d", limit, q, e)
	}
	return q
}

// holding is a queue for so many events, with some.
func holding(t *testing.T, limit int, list ...api.Event) *event.Queue {
	t.Helper()
	q := queue(t, limit)
	for _, e := range list {
		puts(t, q, e, api.OK)
	}
	return q
}

func puts(t *testing.T, q *event.Queue, e api.Event, want api.Errno) {
	t.Helper()
	if got := q.Put(e); got != want {
		t.Fatalf("Put(%v): %d, not %d", e, got, want)
	}
}

func cancels(t *testing.T, q *event.Queue, from, seq int, want bool) {
	t.Helper()
	if got := q.Cancel(from, seq); got != want {
		t.Fatalf("Cancel(%d, %d): %v", from, seq, got)
	}
}

// takes tells that a queue's first event is this one, and takes it.
func takes(t *testing.T, q *event.Queue, want api.Event) {
	t.Helper()
	if e, ok := q.Min(); e != want || !ok {
		t.Fatalf("Min: %v, %v, not %v", e, ok, want)
	}
	if e, ok := q.Take(); e != want || !ok {
		t.Fatalf("Take: %v, %v, not %v", e, ok, want)
	}
}

// empty tells that a queue has no events.
func empty(t *testing.T, q *event.Queue) {
	t.Helper()
	if n := q.Len(); n != 0 {
		t.Fatalf("Len: %d", n)
	}
	if e, ok := q.Min(); e != (api.Event{}) || ok {
		t.Fatalf("Min: %v, %v", e, ok)
	}
	if e, ok := q.Take(); e != (api.Event{}) || ok {
		t.Fatalf("Take: %v, %v", e, ok)
	}
}

// gives tells that a queue has just these events, in this order. It takes all of them.
func gives(t *testing.T, q *event.Queue, list ...api.Event) {
	t.Helper()
	for i, e := range list {
		if n := q.Len(); n != len(list)-i {
			t.Fatalf("Len: %d, not %d", n, len(list)-i)
		}
		takes(t, q, e)
	}
	empty(t, q)
}

// has is as gives, but it takes them out of a copy.
func has(t *testing.T, q *event.Queue, list ...api.Event) {
	t.Helper()
	gives(t, q.Copy(), list...)
}

// ahead tells by the words of the chapter whether one event comes ahead of another one.
func ahead(a, b api.Event) bool {
	if a.Time != b.Time {
		return a.Time < b.Time
	}
	if a.Node != b.Node {
		return a.Node < b.Node
	}
	if a.From != b.From {
		return a.From < b.From
	}
	return a.Seq < b.Seq
}

// model is a queue by the words of the chapter: its events in no order, gone over one by one.
type model struct {
	limit int
	list  []api.Event
}

func (m *model) at(from, seq int) int {
	for i, e := range m.list {
		if e.From == from && e.Seq == seq {
			return i
		}
	}
	return -1
}

func (m *model) put(e api.Event) api.Errno {
	if e.Time < 0 || e.Anti || m.at(e.From, e.Seq) >= 0 {
		return api.ErrArg
	}
	if e.Time > 1<<62-1 {
		return api.ErrTime
	}
	if len(m.list) == m.limit {
		return api.ErrQueue
	}
	m.list = append(m.list, e)
	return api.OK
}

func (m *model) first() (api.Event, bool) {
	if len(m.list) == 0 {
		return api.Event{}, false
	}
	out := m.list[0]
	for _, e := range m.list {
		if ahead(e, out) {
			out = e
		}
	}
	return out, true
}

func (m *model) take() (api.Event, bool) {
	e, ok := m.first()
	m.cancel(e.From, e.Seq)
	return e, ok
}

func (m *model) cancel(from, seq int) bool {
	i := m.at(from, seq)
	if i >= 0 {
		m.list = slices.Delete(m.list, i, i+1)
	}
	return i >= 0
}

// pair is a queue, and what it is to be.
type pair struct {
	q *event.Queue
	m *model
}

func newPair(t *testing.T, limit int) pair {
	t.Helper()
	return pair{queue(t, limit), &model{limit: limit}}
}

func (p pair) copied() pair {
	return pair{p.q.Copy(), &model{p.m.limit, slices.Clone(p.m.list)}}
}

func (p pair) put(t *testing.T, e api.Event) api.Errno {
	t.Helper()
	want := p.m.put(e)
	puts(t, p.q, e, want)
	p.same(t)
	return want
}

func (p pair) take(t *testing.T) {
	t.Helper()
	want, there := p.m.take()
	if e, ok := p.q.Take(); e != want || ok != there {
		t.Fatalf("Take: %v, %v, not %v, %v", e, ok, want, there)
	}
	p.same(t)
}

func (p pair) cancel(t *testing.T, from, seq int) bool {
	t.Helper()
	want := p.m.cancel(from, seq)
	cancels(t, p.q, from, seq, want)
	p.same(t)
	return want
}

// same tells that what is there is what is to be there, as far as that is told without a change.
func (p pair) same(t *testing.T) {
	t.Helper()
	want, there := p.m.first()
	if e, ok := p.q.Min(); e != want || ok != there || p.q.Len() != len(p.m.list) {
		t.Fatalf("Min: %v, %v of %d, not %v, %v of %d", e, ok, p.q.Len(), want, there, len(p.m.list))
	}
}

// sameAll tells that all that is there comes as it is to come.
func (p pair) sameAll(t *testing.T) {
	t.Helper()
	for c := p.copied(); ; {
		c.take(t)
		if len(c.m.list) == 0 {
			empty(t, c.q)
			return
		}
	}
}

type dice uint32

func (d *dice) roll(n int) int {
	*d = *d*1664525 + 1013904223
	return int(*d>>8) % n
}

// mix lays a list by chance.
func (d *dice) mix(list []api.Event) {
	for i := range list {
		k := d.roll(i + 1)
		list[i], list[k] = list[k], list[i]
	}
}

// orders goes through all orders of a list.
func orders(list []api.Event, do func(list []api.Event)) {
	var from func(at int)
	from = func(at int) {
		if at == len(list) {
			do(list)
			return
		}
		for i := at; i < len(list); i++ {
			list[at], list[i] = list[i], list[at]
			from(at + 1)
			list[at], list[i] = list[i], list[at]
		}
	}
	from(0)
}
