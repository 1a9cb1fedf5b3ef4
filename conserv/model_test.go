package conserv_test

import (
	"silkworm/api"
	"silkworm/lp"
	"testing"
)

// model does a script once more, by the words of the chapter: it keeps all that was ever sent, and works out promises and clocks anew each time.
type model struct {
	sim
	list []*lp.Process
	ways []*way
}

// way is a channel: the first of what was sent on it came.
type way struct {
	from, to int
	sent     []any // events, and promises as numbers
	came     int
}

func newModel(t *testing.T, s sim) *model {
	t.Helper()
	m := &model{sim: s}
	for k := range s.p.N {
		x, e := lp.New(s.l, s.p, k, s.stim, s.horizon)
		if e != api.OK {
			t.Fatalf("%v: %d", s, e)
		}
		m.list = append(m.list, x)
	}
	for i, row := range s.p.Ahead {
		for j, time := range row {
			if time != 0 {
				m.ways = append(m.ways, &way{from: i, to: j})
			}
		}
	}
	return m
}

// promise is the greatest one in a list of messages.
func promise(list []any) int {
	time := 0
	for _, m := range list {
		if p, ok := m.(int); ok {
			time = max(time, p)
		}
	}
	return time
}

func (m *model) clock(k int) int {
	time := m.horizon + 1
	for _, w := range m.ways {
		if w.to == k {
			time = min(time, promise(w.sent[:w.came]))
		}
	}
	return time
}

func (m *model) goOn(k int) api.Errno {
	x := m.list[k]
	if time, ok := x.Next(); ok && time < m.clock(k) {
		out, e := x.Step()
		if e != api.OK {
			return e
		}
		for _, v := range out {
			for _, w := range m.ways {
				if w.from == k && w.to == m.p.Of[v.Node] {
					w.sent = append(w.sent, v)
				}
			}
		}
	}
	for _, w := range m.ways {
		if w.from != k {
			continue
		}
		time, ok := x.Next()
		if !ok || time > m.clock(k) {
			time = m.clock(k)
		}
		time = min(time+m.p.Ahead[k][w.to], m.horizon+1)
		if promise(w.sent) < time {
			w.sent = append(w.sent, time)
		}
	}
	return api.OK
}

func (m *model) come(w *way, count int) api.Errno {
	for ; count > 0 && w.came < len(w.sent); count-- {
		if v, ok := w.sent[w.came].(api.Event); ok {
			if e := m.list[w.to].Take(v); e != api.OK {
				return e
			}
		}
		w.came++
	}
	return api.OK
}

func (m *model) pick(p api.Pick) api.Errno {
	n := uint64(p.N)
	if p.Kind == 1 {
		return m.goOn(int(n % uint64(m.p.N)))
	}
	if p.Kind != 2 && p.Kind != 3 || len(m.ways) == 0 {
		return api.OK
	}
	w := m.ways[n%uint64(len(m.ways))]
	if p.Kind == 2 {
		return m.come(w, 1)
	}
	return m.come(w, len(w.sent))
}

// end is the least next time or clock, and the error, behind a script.
func (m *model) end(script []api.Pick) (int, api.Errno) {
	why := api.OK
	for i := 0; i < len(script) && why == api.OK; i++ {
		why = m.pick(script[i])
	}
	end := m.horizon + 1
	for k, x := range m.list {
		if time, ok := x.Next(); ok {
			end = min(end, time)
		}
		end = min(end, m.clock(k))
	}
	return end, why
}

// again tells that a script does what the model does, and ahead of which time its waveform is told.
func (s sim) again(t *testing.T, script []api.Pick) (int, api.Errno) {
	t.Helper()
	end, e := newModel(t, s).end(script)
	s.answers(t, script, end, end > s.horizon && e == api.OK, e)
	return end, e
}
