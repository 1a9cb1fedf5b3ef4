package lp

import (
	"cmp"
	"silkworm/api"
	"silkworm/level"
	"silkworm/logic"
	"slices"
	"strings"
)

// fixed is what does not change of a process. Nobody writes to it, once it is made.
type fixed struct {
	number  int // of its part
	horizon int
	nodes   []api.Node // of its part, by their levels: what goes into a gate stands ahead of it. Ins are places in this list; of a delay there are none.
	feeders []int      // of each of these nodes, the part that sends it events: its own, but for delays that others feed
	places  []int      // of each node of the netlist, where it stands in nodes; -1: it is another part's
	nets    []int      // of each net, where its node stands in nodes; -1: it is another part's
	lines   []line     // the delays that it feeds, by their numbers
	first   []string   // of each of its nodes, the value ahead of the time 0
}

// line is a delay that a process feeds.
type line struct {
	node int // in the netlist
	in   int // where what goes in stands among the process's nodes
	time int
	own  bool // it is of the same part
}

// newFixed is what does not change of the process of a part, all of which may be.
func newFixed(l api.Netlist, of []int, k, horizon int) *fixed {
	f := &fixed{number: k, horizon: horizon, places: slices.Repeat([]int{-1}, len(l.Nodes))}
	for _, n := range byLevels(l) {
		if of[n] == k {
			f.places[n] = len(f.nodes)
			f.nodes = append(f.nodes, l.Nodes[n])
			f.feeders = append(f.feeders, k)
		}
	}
	for n := range l.Nodes {
		f.join(l.Nodes[n], n, of)
	}
	for _, n := range l.Nets {
		f.nets = append(f.nets, f.places[n])
	}
	f.first = f.ahead()
	return f
}

// byLevels is the numbers of all nodes, those that hang on others behind them.
func byLevels(l api.Netlist) []int {
	levels, _ := level.Run(l)
	list := make([]int, len(levels))
	for n := range list {
		list[n] = n
	}
	slices.SortStableFunc(list, func(a, b int) int { return cmp.Compare(levels[a], levels[b]) })
	return list
}

// join tells where what goes into a node stands, if the process has to do with it.
func (f *fixed) join(n api.Node, number int, of []int) {
	at := f.places[number]
	if n.Kind == api.NdDelay {
		if from := of[n.Ins[0]]; from == f.number {
			f.lines = append(f.lines, line{node: number, in: f.places[n.Ins[0]], time: n.Time, own: at >= 0})
		} else if at >= 0 {
			f.feeders[at] = from
		}
		n.Ins = nil
	}
	if at < 0 {
		return
	}
	ins := make([]int, len(n.Ins)) // a list of its own: the netlist's is not to be written to
	for i, in := range n.Ins {
		ins[i] = f.places[in]
	}
	f.nodes[at].Ins = ins
}

// own is those changes of a stimulus whose nets are of its part.
func (f *fixed) own(stim []api.Change) []api.Change {
	var list []api.Change
	for _, c := range stim {
		if f.nets[c.Net] >= 0 {
			list = append(list, c)
		}
	}
	return list
}

// awaits tells whether an event comes from another process to this one.
func (f *fixed) awaits(e api.Event) bool {
	if e.Node < 0 || e.Node >= len(f.places) || e.From == f.number {
		return false
	}
	at := f.places[e.Node]
	return at >= 0 && f.feeders[at] == e.From && len(e.Value) == f.nodes[at].Wide && logic.Check(e.Value) == api.OK
}

// gets is what inputs and delays get by changes and events.
func (f *fixed) gets(stim []api.Change, events []api.Event) []got {
	var list []got
	for _, c := range stim {
		list = append(list, got{at: f.nets[c.Net], value: c.Value})
	}
	for _, e := range events {
		list = append(list, got{at: f.places[e.Node], value: e.Value})
	}
	return list
}

// firsts is of each net of its part the value ahead of the time 0, of others the empty text.
func (f *fixed) firsts() []string {
	list := make([]string, len(f.nets))
	for net, at := range f.nets {
		if at >= 0 {
			list[net] = f.first[at]
		}
	}
	return list
}

// changes is the nets of its part that have other values behind a time than ahead of it.
func (f *fixed) changes(time int, ahead, values []string) []api.Change {
	var list []api.Change
	for net, at := range f.nets {
		if at >= 0 && values[at] != ahead[at] {
			list = append(list, api.Change{Time: time, Net: net, Value: values[at]})
		}
	}
	return list
}

// unknown is x in all bits of a node.
func unknown(n api.Node) string {
	return strings.Repeat("x", n.Wide)
}
