package engine

import (
	"cmp"
	"silkworm/api"
	"slices"
)

// moment is a time at which nodes have changed. They become nets at the end, when all went well: one node may be any number of nets.
type moment struct {
	time  int
	notes []note
}

// note is a node's new value.
type note struct {
	node  int
	value string
}

// keep notes the nodes of nets that are not what they were at the end of the time ahead.
func (r *runner) keep(time int) {
	var notes []note
	for _, n := range r.changed {
		v := r.values[n]
		if len(r.netsOf[n]) > 0 && v != r.told[n] {
			r.told[n] = v
			notes = append(notes, note{node: n, value: v})
		}
	}
	r.changed = r.changed[:0]
	if len(notes) > 0 {
		r.moments = append(r.moments, moment{time: time, notes: notes})
	}
}

// wave is the waveform of the times that were gone through. Its nets have no names.
func (r *runner) wave() api.Wave {
	w := api.Wave{Names: make([]string, len(r.nets)), List: make([]api.Change, 0, r.count())}
	for _, n := range r.nets {
		w.Wides = append(w.Wides, r.nodes[n].Wide)
		w.First = append(w.First, r.first[n])
	}
	for _, m := range r.moments {
		from := len(w.List)
		for _, n := range m.notes {
			for _, net := range r.netsOf[n.node] {
				w.List = append(w.List, api.Change{Time: m.time, Net: net, Value: n.value})
			}
		}
		slices.SortFunc(w.List[from:], func(a, b api.Change) int { return cmp.Compare(a.Net, b.Net) })
	}
	return w
}

// count is how many changes of nets there are.
func (r *runner) count() int {
	count := 0
	for _, m := range r.moments {
		for _, n := range m.notes {
			count += len(r.netsOf[n.node])
		}
	}
	return count
}
