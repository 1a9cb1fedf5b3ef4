package warp

import (
	"silkworm/api"
	"silkworm/joint"
	"silkworm/lp"
)

// runner is the processes of a netlist's parts, and the messages under way between them.
type runner struct {
	of        []int // of each node, its process
	processes []*process
	mail      mail
	last      int // the horizon and 1
	saved     int // how many states each process may have saved
	gvt       int // behind the last pick that was done
}

// newRunner is all processes ahead of the time 0.
func newRunner(l api.Netlist, p api.Parts, stim []api.Change, horizon, saved int) (*runner, api.Errno) {
	list, e := joint.Processes(l, p, stim, horizon)
	if e != api.OK {
		return nil, e
	}
	if saved < 1 || saved > api.MaxQueue {
		return nil, api.ErrArg
	}
	r := &runner{of: p.Of, last: horizon + 1, saved: saved}
	for _, x := range list {
		r.processes = append(r.processes, &process{Process: x, met: map[key]api.Event{}})
	}
	return r, api.OK
}

// do does a script, as far as nothing is refused: the GVT behind each pick. What a pick that was refused has begun tells nothing: it is not ahead of the GVT.
func (r *runner) do(script []api.Pick) ([]int, api.Errno) {
	var times []int
	for _, p := range script {
		if e := r.pick(p); e != api.OK {
			return times, e
		}
		r.raise()
		times = append(times, r.gvt)
	}
	return times, api.OK
}

func (r *runner) pick(p api.Pick) api.Errno {
	switch p.Kind {
	case kindGo:
		return r.goAhead(joint.Modulo(p.N, len(r.processes)))
	case kindOne:
		if count := len(r.mail.list); count > 0 {
			return r.come(joint.Modulo(p.N, count))
		}
	case kindAll:
		return r.comeAll()
	}
	return api.OK
}

func (r *runner) goAhead(k int) api.Errno {
	sent, e := r.processes[k].goAhead(r.saved)
	r.mail.send(sent)
	return e
}

// come lets a message come to the process that it is for.
func (r *runner) come(at int) api.Errno {
	m := r.mail.take(at)
	sent, e := r.processes[r.of[m.Node]].come(m)
	r.mail.send(sent)
	return e
}

// comeAll ends: what is sent then takes back only what was sent by going ahead, and nobody goes ahead here.
func (r *runner) comeAll() api.Errno {
	for len(r.mail.list) > 0 {
		if e := r.come(0); e != api.OK {
			return e
		}
	}
	return api.OK
}

// raise works the GVT out anew, and drops the states that it is beyond.
func (r *runner) raise() {
	time := r.mail.first(r.last)
	for _, x := range r.processes {
		if next, ok := x.Next(); ok {
			time = min(time, next)
		}
	}
	r.gvt = time
	for _, x := range r.processes {
		x.drop(time)
	}
}

// wave is what the processes tell together ahead of the GVT.
func (r *runner) wave(l api.Netlist) api.Wave {
	var list []*lp.Process
	for _, x := range r.processes {
		list = append(list, x.Process)
	}
	return joint.Wave(l, r.of, list, r.gvt)
}
