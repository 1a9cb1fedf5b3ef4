package conserv

import (
	"silkworm/api"
	"silkworm/joint"
	"silkworm/lp"
)

// runner is the processes of a netlist's parts, and the channels between them.
type runner struct {
	of        []int // of each node, its process
	processes []*process
	channels  []*channel
}

// newRunner is all processes ahead of the time 0.
func newRunner(l api.Netlist, p api.Parts, stim []api.Change, horizon int) (*runner, api.Errno) {
	list, e := joint.Processes(l, p, stim, horizon)
	if e != api.OK {
		return nil, e
	}
	r := &runner{of: p.Of, channels: newChannels(p)}
	for k := range len(list) {
		r.processes = append(r.processes, &process{Process: list[k], outs: make([]*channel, p.N), last: horizon + 1})
	}
	for i := range len(r.channels) {
		c := r.channels[i]
		r.processes[c.from].outs[c.to] = c
		to := r.processes[c.to]
		to.ins = append(to.ins, c)
	}
	return r, api.OK
}

// do does a script, as far as nothing is refused.
func (r *runner) do(script []api.Pick) api.Errno {
	for _, p := range script {
		if e := r.pick(p); e != api.OK {
			return e
		}
	}
	return api.OK
}

func (r *runner) pick(p api.Pick) api.Errno {
	switch p.Kind {
	case kindGo:
		return r.processes[joint.Modulo(p.N, len(r.processes))].goOn(r.of)
	case kindOne, kindAll:
		return r.come(p)
	}
	return api.OK
}

// come lets the first message of a channel come, or all that are on it.
func (r *runner) come(p api.Pick) api.Errno {
	if len(r.channels) == 0 {
		return api.OK
	}
	c := r.channels[joint.Modulo(p.N, len(r.channels))]
	count := len(c.messages)
	if p.Kind == kindOne {
		count = min(count, 1)
	}
	for range count {
		if e := r.tell(c); e != api.OK {
			return e
		}
	}
	return api.OK
}

// tell tells the first message of a channel to the process that it is for.
func (r *runner) tell(c *channel) api.Errno {
	m := c.next()
	if m.isPromise {
		c.came = m.promise
		return api.OK
	}
	return r.processes[c.to].Take(m.event)
}

// bound is the time ahead of which all processes have gone through everything.
func (r *runner) bound() int {
	time := r.processes[0].bound()
	for k := range len(r.processes) {
		time = min(time, r.processes[k].bound())
	}
	return time
}

// wave is what the processes tell together ahead of a time.
func (r *runner) wave(l api.Netlist, end int) api.Wave {
	var list []*lp.Process
	for _, x := range r.processes {
		list = append(list, x.Process)
	}
	return joint.Wave(l, r.of, list, end)
}
