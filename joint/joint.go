// Package joint is what the layers have in common that simulate by the processes of all parts: making these, telling by a number which one is meant, and the waveform that they tell together.
package joint

import (
	"cmp"
	"silkworm/api"
	"silkworm/lp"
	"slices"
)

// Processes is those of all parts of a netlist, ahead of the time 0. The first one is made whatever the parts are: what may not be is told by it.
func Processes(l api.Netlist, p api.Parts, stim []api.Change, horizon int) ([]*lp.Process, api.Errno) {
	var list []*lp.Process
	for k := range max(p.N, 1) {
		x, e := lp.New(l, p, k, stim, horizon)
		if e != api.OK {
			return nil, e
		}
		list = append(list, x)
	}
	return list, api.OK
}

// Modulo is a number modulo how many there are, which is above 0. It takes a number below 0 as one without sign.
func Modulo(n, count int) int {
	return int(uint64(n) % uint64(count))
}

// Wave is what the processes of all parts tell together ahead of a time, of each node being told whose it is. Its nets have no names.
func Wave(l api.Netlist, of []int, list []*lp.Process, end int) api.Wave {
	w := api.Wave{Names: make([]string, len(l.Nets)), First: make([]string, len(l.Nets))}
	for _, n := range l.Nets {
		w.Wides = append(w.Wides, l.Nodes[n].Wide)
	}
	for k, x := range list {
		for net, v := range x.First() {
			if of[l.Nets[net]] == k {
				w.First[net] = v
			}
		}
		for _, c := range x.Changes(0) {
			if c.Time < end {
				w.List = append(w.List, c)
			}
		}
	}
	slices.SortFunc(w.List, func(a, b api.Change) int { return cmp.Or(cmp.Compare(a.Time, b.Time), cmp.Compare(a.Net, b.Net)) })
	return w
}
