package lp_test

import (
	"cmp"
	"silkworm/api"
	"silkworm/logic"
	"silkworm/lp"
	"slices"
	"strings"
	"testing"
)

// model is a process told once more, by the words of the chapters: it keeps all events in a list, and works out all values of a time anew.
type model struct {
	l       api.Netlist
	p       api.Parts
	k       int
	stim    []api.Change
	horizon int

	done, made int
	held       []string // of inputs, delays and flip-flops what they are
	ends       []string // of all nodes of its part, at the end of the time ahead
	first      []string
	sent       []string // of each delay
	events     []api.Event
	list       []api.Change
}

func newModel(l api.Netlist, p api.Parts, k int, stim []api.Change, horizon int) *model {
	m := &model{l: l, p: p, k: k, stim: stim, horizon: horizon, done: -1}
	for _, n := range l.Nodes {
		m.held = append(m.held, strings.Repeat("x", n.Wide))
	}
	m.sent = slices.Clone(m.held)
	m.ends = m.values(m.held)
	m.first = m.ends
	return m
}

func (m *model) copy() *model {
	c := *m
	c.events = slices.Clone(m.events)
	c.list = slices.Clone(m.list)
	return &c
}

// values is what the nodes of its part are, by what inputs, delays and flip-flops are.
func (m *model) values(held []string) []string {
	out := make([]string, len(m.l.Nodes))
	var ask func(i int) string
	ask = func(i int) string {
		n := m.l.Nodes[i]
		if n.Kind == api.NdIn || n.Kind == api.NdFlip || n.Kind == api.NdDelay {
			return held[i]
		}
		if out[i] == "" {
			var ins []string
			for _, in := range n.Ins {
				ins = append(ins, ask(in))
			}
			out[i] = gate(n, ins)
		}
		return out[i]
	}
	for i := range out {
		if m.p.Of[i] == m.k {
			out[i] = ask(i)
		}
	}
	return out
}

func gate(n api.Node, ins []string) string {
	v := ""
	switch {
	case n.Kind == api.NdConst:
		v = n.Value
	case n.Kind == api.NdChoose && strings.Contains(ins[0], "1"):
		v = ins[1]
	case n.Kind == api.NdChoose:
		v = ins[2]
	case n.Kind == api.NdSame && ins[0] == ins[1]:
		v = "1"
	case n.Kind == api.NdSame:
		v = "0"
	case n.Kind == api.NdWide:
		v = strings.Repeat("0", n.Wide) + ins[0]
		v = v[len(v)-n.Wide:]
	case n.Op == api.OpCond:
		v, _ = logic.Cond(ins[0], ins[1], ins[2])
	case n.Op == api.OpBit:
		v, _ = logic.Bit(ins[0], ins[1])
	case n.Op == api.OpPart:
		v, _ = logic.Part(ins[0], n.Hi, n.Lo)
	case n.Op == api.OpCat:
		v = strings.Join(ins, "")
	case len(ins) == 1:
		v, _ = logic.Unary(n.Op, ins[0])
	default:
		v, _ = logic.Binary(n.Op, ins[0], ins[1])
	}
	return v
}

func (m *model) next() (int, bool) {
	if m.done < 0 {
		return 0, true
	}
	time := m.horizon + 1
	for _, e := range m.events {
		time = min(time, e.Time)
	}
	for _, c := range m.stim {
		if c.Time > m.done && m.p.Of[m.l.Nets[c.Net]] == m.k {
			time = min(time, c.Time)
		}
	}
	if time > m.horizon {
		return 0, false
	}
	return time, true
}

func (m *model) take(e api.Event) api.Errno {
	if e.Node < 0 || e.Node >= len(m.l.Nodes) {
		return api.ErrArg
	}
	n := m.l.Nodes[e.Node]
	if n.Kind != api.NdDelay || m.p.Of[e.Node] != m.k || m.p.Of[n.Ins[0]] == m.k || m.p.Of[n.Ins[0]] != e.From || len(e.Value) != n.Wide || strings.Trim(e.Value, "01xz") != "" {
		return api.ErrArg
	}
	if e.Time <= m.done {
		return api.ErrStage
	}
	if e.Anti || m.find(e.From, e.Seq) >= 0 {
		return api.ErrArg
	}
	if e.Time > api.MaxTime {
		return api.ErrTime
	}
	if len(m.events) >= 4096 {
		return api.ErrQueue
	}
	m.events = append(m.events, e)
	return api.OK
}

func (m *model) find(from, seq int) int {
	return slices.IndexFunc(m.events, func(e api.Event) bool { return e.From == from && e.Seq == seq })
}

func (m *model) cancel(from, seq int) bool {
	at := m.find(from, seq)
	if at < 0 || from == m.k {
		return false
	}
	m.events = slices.Delete(m.events, at, at+1)
	return true
}

// step works on a copy, which it becomes, if nothing is refused.
func (m *model) step() ([]api.Event, api.Errno) {
	time, ok := m.next()
	if !ok {
		return nil, api.ErrNone
	}
	c := m.copy()
	c.held = slices.Clone(m.held)
	for _, s := range m.stim {
		if n := m.l.Nets[s.Net]; s.Time == time && m.p.Of[n] == m.k {
			c.held[n] = s.Value
		}
	}
	slices.SortFunc(c.events, func(a, b api.Event) int { return cmp.Or(cmp.Compare(a.Time, b.Time), cmp.Compare(a.Seq, b.Seq)) })
	for len(c.events) > 0 && c.events[0].Time == time {
		c.held[c.events[0].Node] = c.events[0].Value
		c.events = c.events[1:]
	}
	c.settle()
	for net, n := range m.l.Nets {
		if c.ends[n] != m.ends[n] {
			c.list = append(c.list, api.Change{Time: time, Net: net, Value: c.ends[n]})
		}
	}
	c.done = time
	out := c.send(time)
	if len(c.events) > 4096 {
		return nil, api.ErrQueue
	}
	*m = *c
	return out, api.OK
}

func (m *model) settle() {
	ahead, now := m.ends, m.values(m.held)
	for {
		held := slices.Clone(m.held)
		any := false
		for i, n := range m.l.Nodes {
			if n.Kind == api.NdFlip && m.p.Of[i] == m.k && logic.Rise(ahead[n.Ins[0]], now[n.Ins[0]]) {
				held[i], any = now[n.Ins[1]], true
			}
		}
		m.held = held
		if !any {
			m.ends = now
			return
		}
		ahead, now = now, m.values(held)
	}
}

func (m *model) send(time int) []api.Event {
	var out []api.Event
	m.sent = slices.Clone(m.sent)
	for i, n := range m.l.Nodes {
		if n.Kind != api.NdDelay || m.p.Of[n.Ins[0]] != m.k || m.sent[i] == m.ends[n.Ins[0]] {
			continue
		}
		m.sent[i] = m.ends[n.Ins[0]]
		m.made++
		e := api.Event{Time: time + n.Time, Node: i, Value: m.sent[i], From: m.k, Seq: m.made}
		if m.p.Of[i] == m.k {
			m.events = append(m.events, e)
		} else {
			out = append(out, e)
		}
	}
	return out
}

func (m *model) firsts() []string {
	var out []string
	for _, n := range m.l.Nets {
		out = append(out, m.first[n])
	}
	return out
}

// pair is a process and what is told of it once more: each call is done on both.
type pair struct {
	x *lp.Process
	m *model
}

func newPair(t *testing.T, l api.Netlist, p api.Parts, k int, stim []api.Change, horizon int) pair {
	t.Helper()
	b := pair{x: process(t, l, p, k, stim, horizon), m: newModel(l, p, k, stim, horizon)}
	b.look(t)
	return b
}

func (b pair) copy() pair {
	return pair{x: b.x.Copy(), m: b.m.copy()}
}

func (b pair) fail(t *testing.T, what ...any) {
	t.Helper()
	t.Fatalf("%s%v, %d, %v, %d: %v", shown(b.m.l), b.m.p, b.m.k, b.m.stim, b.m.horizon, what)
}

// look holds against each other all that is told without changing anything.
func (b pair) look(t *testing.T) {
	t.Helper()
	time, ok := b.x.Next()
	if want, is := b.m.next(); time != want || ok != is {
		b.fail(t, "Next", time, ok, want, is)
	}
	if b.x.Done() != b.m.done {
		b.fail(t, "Done", b.x.Done(), b.m.done)
	}
	if got := b.x.First(); !slices.Equal(got, b.m.firsts()) {
		b.fail(t, "First", got, b.m.firsts())
	}
	for _, from := range []int{0, b.m.done / 2, b.m.done, b.m.done + 1} {
		var want []api.Change
		for _, c := range b.m.list {
			if c.Time >= from {
				want = append(want, c)
			}
		}
		if got := b.x.Changes(from); !slices.Equal(got, want) {
			b.fail(t, "Changes", from, got, want)
		}
	}
}

func (b pair) step(t *testing.T) ([]api.Event, api.Errno) {
	t.Helper()
	got, e := b.x.Step()
	want, is := b.m.step()
	if e != is || !slices.Equal(got, want) {
		b.fail(t, "Step", got, e, want, is)
	}
	b.look(t)
	return got, e
}

func (b pair) take(t *testing.T, e api.Event) api.Errno {
	t.Helper()
	got := b.x.Take(e)
	if want := b.m.take(e); got != want {
		b.fail(t, "Take", e, got, want)
	}
	return got
}

func (b pair) cancel(t *testing.T, from, seq int) bool {
	t.Helper()
	got := b.x.Cancel(from, seq)
	if want := b.m.cancel(from, seq); got != want {
		b.fail(t, "Cancel", from, seq, got, want)
	}
	return got
}
