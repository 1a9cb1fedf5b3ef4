package conserv

import (
	"cmp"
	"silkworm/api"
	"silkworm/lp"
	"slices"
)

// runner is the processes of a netlist's parts, and the channels between them.
type runner struct {
	of        []int // of each node, its process
	processes []*process
	channels  []*channel
}

// newRunner is all processes ahead of the time 0. The first one is made whatever the parts are: what may not be is told by it.
func newRunner(l api.Netlist, p api.Parts, stim []api.Change, horizon int) (*runner, api.Errno) {
	r := &runner{of: p.Of}
	for k := range max(p.N, 1) {
		x, e := lp.New(l, p, k, stim, horizon)
		if e != api.OK {
			return nil, e
		}
		r.processes = append(r.processes, &process{Process: x, outs: make([]*channel, p.N), last: horizon + 1})
	}
	r.channels = newChannels(p)
	for i := range len(r.channels) {
		c := r.channels[i]
		r.processes[c.from].outs[c.to] = c
		to := r.processes[c.to]
		to.ins = append(to.ins, c)
	}
	return r, api.OK
}

// do does a script, as far as nothing is refused.
func (r *runner) do(script []api.Pick) api.Errno {
	for _, p := range script {
		if e := r.pick(p); e != api.OK {
			return e
		}
	}
	return api.OK
}

func (r *runner) pick(p api.Pick) api.Errno {
	switch p.Kind {
	case kindGo:
		return r.processes[modulo(p.N, len(r.processes))].goOn(r.of)
	case kindOne, kindAll:
		return r.come(p)
	}
	return api.OK
}

// modulo takes a number below 0 as one without sign.
func modulo(n, count int) int {
	return int(uint64(n) % uint64(count))
}

// come lets the first message of a channel come, or all that are on it.
func (r *runner) come(p api.Pick) api.Errno {
	if len(r.channels) == 0 {
		return api.OK
	}
	c := r.channels[modulo(p.N, len(r.channels))]
	count := len(c.messages)
	if p.Kind == kindOne {
		count = min(count, 1)
	}
	for range count {
		if e := r.tell(c); e != api.OK {
			return e
		}
	}
	return api.OK
}

// tell tells the first message of a channel to the process that it is for.
func (r *runner) tell(c *channel) api.Errno {
	m := c.next()
	if m.isPromise {
		c.came = m.promise
		return api.OK
	}
	return r.processes[c.to].Take(m.event)
}

// bound is the time ahead of which all processes have gone through everything.
func (r *runner) bound() int {
	time := r.processes[0].bound()
	for k := range len(r.processes) {
		time = min(time, r.processes[k].bound())
	}
	return time
}

// wave is what the processes tell together ahead of a time. Its nets have no names.
func (r *runner) wave(l api.Netlist, end int) api.Wave {
	w := api.Wave{Names: make([]string, len(l.Nets)), First: make([]string, len(l.Nets))}
	for _, n := range l.Nets {
		w.Wides = append(w.Wides, l.Nodes[n].Wide)
	}
	for k, x := range r.processes {
		for net, v := range x.First() {
			if r.of[l.Nets[net]] == k {
				w.First[net] = v
			}
		}
		for _, c := range x.Changes(0) {
			if c.Time < end {
				w.List = append(w.List, c)
			}
		}
	}
	slices.SortFunc(w.List, func(a, b api.Change) int { return cmp.Or(cmp.Compare(a.Time, b.Time), cmp.Compare(a.Net, b.Net)) })
	return w
}
