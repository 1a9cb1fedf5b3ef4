package warp_test

import (
	"silkworm/api"
	"silkworm/lp"
	"slices"
	"testing"
)

// model does a script once more, by the words of the chapter. It saves no states: who goes back is made anew, and goes through all of its times up to there again.
type model struct {
	sim
	t     *testing.T
	list  []*one
	under []api.Event
	did   []api.Pick
	backs int // how often someone went back
	early int // how many Anti messages came ahead of what they take back
}

// one is a process: the times that it has gone through, and what it sent by each of them; what came and counts, and what was taken back ahead of coming.
type one struct {
	*lp.Process
	number int
	times  []int
	sent   [][]api.Event
	came   []api.Event
	gone   []api.Event
	count  int // of all that it ever sent
}

func newModel(t *testing.T, s sim) *model {
	t.Helper()
	m := &model{sim: s, t: t}
	for k := range s.p.N {
		m.list = append(m.list, &one{Process: m.fresh(k), number: k})
	}
	return m
}

func (m *model) fresh(k int) *lp.Process {
	x, e := lp.New(m.l, m.p, k, m.stim, m.horizon)
	if e != api.OK {
		m.t.Fatalf("%v: %d", m.sim, e)
	}
	return x
}

// gvt is the least next time or message's time.
func (m *model) gvt() int {
	time := m.horizon + 1
	for _, x := range m.list {
		if next, ok := x.Next(); ok {
			time = min(time, next)
		}
	}
	for _, v := range m.under {
		time = min(time, v.Time)
	}
	return time
}

func (m *model) ahead(x *one) api.Errno {
	time, ok := x.Next()
	if !ok {
		return api.OK
	}
	if _, e := x.Copy().Step(); e != api.OK {
		return e
	}
	states, gvt := 1, m.gvt()
	for _, at := range x.times {
		if at >= gvt {
			states++
		}
	}
	if states > m.saved {
		return api.ErrSaved
	}
	out, _ := x.Step()
	for i := range out {
		x.count++
		out[i].Seq = x.count
	}
	x.times, x.sent = append(x.times, time), append(x.sent, out)
	m.under = append(m.under, out...)
	return api.OK
}

// come lets the message come that stands at a place.
func (m *model) come(at int) api.Errno {
	v := m.under[at]
	m.under = slices.Concat(m.under[:at], m.under[at+1:])
	x := m.list[m.p.Of[v.Node]]
	same := func(o api.Event) bool { return o.From == v.From && o.Seq == v.Seq }
	switch {
	case v.Anti && !slices.ContainsFunc(x.came, same):
		m.early++
		x.gone = append(x.gone, v)
		return api.OK
	case !v.Anti && slices.ContainsFunc(x.gone, same):
		x.gone = slices.DeleteFunc(x.gone, same)
		return api.OK
	case v.Anti:
		x.came = slices.DeleteFunc(x.came, same)
	default:
		x.came = append(x.came, v)
		if v.Time > x.Done() {
			return x.Take(v)
		}
	}
	return m.anew(x, v.Time)
}

// anew makes a process that has gone through no time from a given one on, and for which all that came counts.
func (m *model) anew(x *one, from int) api.Errno {
	count := 0
	for count < len(x.times) && x.times[count] < from {
		count++
	}
	for _, list := range x.sent[count:] {
		for _, v := range list {
			v.Anti = true
			m.under = append(m.under, v)
		}
	}
	if count < len(x.times) {
		m.backs++
	}
	x.times, x.sent = x.times[:count:count], x.sent[:count:count]
	x.Process = m.fresh(x.number)
	for _, time := range x.times {
		x.take(func(v api.Event) bool { return v.Time == time })
		if next, ok := x.Next(); !ok || next != time {
			m.t.Fatalf("%v: %d, %v at %v", m.sim, next, ok, x.times)
		}
		x.Step()
	}
	done := x.Done()
	return x.take(func(v api.Event) bool { return v.Time > done })
}

// take takes what came, as far as it is asked for.
func (x *one) take(asked func(api.Event) bool) api.Errno {
	for _, v := range x.came {
		if asked(v) {
			if e := x.Take(v); e != api.OK {
				return e
			}
		}
	}
	return api.OK
}

func (m *model) pick(p api.Pick) api.Errno {
	m.did = append(m.did, p)
	n := uint64(p.N)
	switch {
	case p.Kind == 1:
		return m.ahead(m.list[n%uint64(len(m.list))])
	case p.Kind == 2 && len(m.under) > 0:
		return m.come(int(n % uint64(len(m.under))))
	case p.Kind == 3:
		for len(m.under) > 0 {
			if e := m.come(0); e != api.OK {
				return e
			}
		}
	}
	return api.OK
}

// all does a script: the GVT behind each pick.
func (m *model) all(script []api.Pick) ([]int, api.Errno) {
	var times []int
	for _, p := range script {
		if e := m.pick(p); e != api.OK {
			return times, e
		}
		times = append(times, m.gvt())
	}
	return times, api.OK
}

// tell lets the first message come that is asked for, and tells what is answered then.
func (m *model) tell(asked func(api.Event) bool) api.Errno {
	m.t.Helper()
	at := slices.IndexFunc(m.under, asked)
	if at < 0 {
		m.t.Fatalf("%v: no such message: %s", m.sim, brief(m.under))
	}
	return m.pick(api.Pick{Kind: 2, N: at})
}

// again tells that a script does what the model does.
func (s sim) again(t *testing.T, script []api.Pick) *model {
	t.Helper()
	m := newModel(t, s)
	want, e := m.all(script)
	_, _, times, _ := s.run(script)
	if !slices.Equal(times, want) {
		t.Fatalf("%v: %s: %s, not %s", s, brief(script), brief(times), brief(want))
	}
	end := 0
	if len(want) > 0 {
		end = want[len(want)-1]
	}
	s.answers(t, script, len(want), end, e)
	return m
}
