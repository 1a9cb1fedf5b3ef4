package engine

import (
	"silkworm/api"
	"slices"
)

// maxTimes is how many times are gone through at the most.
const maxTimes = 1 << 14

// runner goes through the times of a netlist.
type runner struct {
	*circuit
	nets    []int
	netsOf  [][]int      // of each node, the nets that it is
	stim    []api.Change // what is yet to come of it
	horizon int
	coming  coming
	sent    []string // by each delay, last
	first   []string // of each node, ahead of the time 0
	told    []string // of each node, at the end of the time ahead
	moments []moment
}

// newRunner is a runner ahead of the time 0.
func newRunner(l api.Netlist, levels []int, stim []api.Change, horizon int) *runner {
	r := &runner{circuit: newCircuit(l.Nodes, levels), nets: l.Nets, stim: stim, horizon: horizon}
	r.first, r.told = slices.Clone(r.values), slices.Clone(r.values)
	r.sent, r.netsOf = make([]string, len(l.Nodes)), make([][]int, len(l.Nodes))
	for i, n := range l.Nodes {
		if n.Kind == api.NdDelay {
			r.sent[i] = unknown(n)
		}
	}
	for net, n := range l.Nets {
		r.netsOf[n] = append(r.netsOf[n], net)
	}
	return r
}

// run goes through the time 0 and all at which something changes. The time that is one too many is gone through, too: it may be that too much is yet to come behind it, and that is told first.
func (r *runner) run() api.Errno {
	for count, time := 1, 0; time <= r.horizon; count++ {
		r.through(time)
		if r.coming.Len() > api.MaxQueue {
			return api.ErrQueue
		}
		if count > maxTimes {
			return api.ErrFull
		}
		time = r.next()
	}
	return api.OK
}

// next is the next time at which an input or a delay changes; above the horizon, if there is none up to it.
func (r *runner) next() int {
	time := r.horizon + 1
	if len(r.stim) > 0 {
		time = min(time, r.stim[0].Time)
	}
	if r.coming.Len() > 0 {
		time = min(time, r.coming[0].Time)
	}
	return time
}

// through goes through one time.
func (r *runner) through(time int) {
	for len(r.stim) > 0 && r.stim[0].Time == time {
		r.put(r.nets[r.stim[0].Net], r.stim[0].Value)
		r.stim = r.stim[1:]
	}
	for e, ok := r.coming.take(time); ok; e, ok = r.coming.take(time) {
		r.put(e.Node, e.Value)
	}
	r.settle()
	r.send(time)
	r.keep(time)
}

// send lets what has gone into delays come out later, if it is not what they sent last. What would come behind the horizon is left out.
func (r *runner) send(time int) {
	for _, d := range r.fed {
		v := r.values[r.nodes[d].Ins[0]]
		if v == r.sent[d] {
			continue
		}
		r.sent[d] = v
		if out := time + r.nodes[d].Time; out <= r.horizon {
			r.coming.put(api.Event{Time: out, Node: d, Value: v})
		}
	}
	r.fed = r.fed[:0]
}
