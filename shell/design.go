package shell

import (
	"cmp"
	"silkworm/api"
	"silkworm/conserv"
	"silkworm/engine"
	"silkworm/logic"
	"silkworm/part"
	"silkworm/warp"
	"slices"
)

const mostChanges = 500

// design is what a build made, and the stimulus that it is under.
type design struct {
	ports    []api.Net
	netlist  api.Netlist
	stimulus []api.Change // by times, then by nets
}

// port is the number of the port of a name.
func (d *design) port(name string) int {
	net := slices.IndexFunc(d.ports, func(p api.Net) bool { return p.Name == name })
	if net < 0 {
		giveUp(api.ErrArg)
	}
	return net
}

// change is a change that the stimulus may have.
func (d *design) change(time int, name, value string) api.Change {
	net := d.port(name)
	if d.ports[net].Kind != api.NetIn || logic.Check(value) != api.OK || len(value) != d.ports[net].Wide {
		giveUp(api.ErrArg)
	}
	return api.Change{Time: time, Net: net, Value: value}
}

// join puts a change into the stimulus, in the place of one of the same time and net.
func (d *design) join(c api.Change) {
	at, there := slices.BinarySearchFunc(d.stimulus, c, func(a, b api.Change) int {
		return cmp.Or(cmp.Compare(a.Time, b.Time), cmp.Compare(a.Net, b.Net))
	})
	if there {
		d.stimulus[at] = c
		return
	}
	if len(d.stimulus) == mostChanges {
		giveUp(api.ErrArg)
	}
	d.stimulus = slices.Insert(d.stimulus, at, c)
}

// named is a waveform of the design's ports, with their names.
func (d *design) named(w api.Wave) api.Wave {
	w.Names = nil
	for _, p := range d.ports {
		w.Names = append(w.Names, p.Name)
	}
	return w
}

// inOrder is the waveform that is simulated time by time.
func (d *design) inOrder(horizon int) api.Wave {
	w, e := engine.Run(d.netlist, d.stimulus, horizon)
	demand(e)
	return d.named(w)
}

// inParallel is the waveform that processes make together, of so many parts at the most.
func (d *design) inParallel(count, horizon int, way func(api.Parts, int) api.Wave) api.Wave {
	// Without nodes there is nothing that could be parted, but a waveform all the same.
	if len(d.netlist.Nodes) == 0 {
		return d.inOrder(horizon)
	}
	p, e := part.Run(d.netlist, count)
	demand(e)
	return way(p, horizon)
}

// byWaiting is the waveform of processes that wait, which so many rounds make whole.
func (d *design) byWaiting(p api.Parts, horizon int) api.Wave {
	rounds, e := conserv.Rounds(p, horizon)
	demand(e)
	w, _, e := conserv.Run(d.netlist, p, d.stimulus, horizon, slices.Repeat(conserv.Round(p), rounds))
	demand(e)
	return d.named(w)
}

// byGoingAhead is the waveform of processes that go ahead, and back, which so many rounds make whole.
func (d *design) byGoingAhead(p api.Parts, horizon int) api.Wave {
	rounds, e := warp.Rounds(p, horizon)
	demand(e)
	w, _, _, e := warp.Run(d.netlist, p, d.stimulus, horizon, api.MaxQueue, slices.Repeat(warp.Round(p), rounds))
	demand(e)
	return d.named(w)
}
