package level

import (
	"silkworm/api"
	"slices"
)

// How far the walk has come with a node.
const (
	unmet = iota
	onWay // it stands on the way: something of what it hangs on is still to be looked at
	done  // its level is known
)

// walker goes down from nodes to what they hang on. It keeps its way in a list and not in calls within one another, since a way may be as long as the netlist.
type walker struct {
	nodes []api.Node
	state []int
	next  []int // of each node, which one of those that it hangs on is looked at next
	level []int
}

func newWalker(nodes []api.Node) *walker {
	n := len(nodes)
	return &walker{nodes: nodes, state: make([]int, n), next: make([]int, n), level: make([]int, n)}
}

// hangsOn is the nodes that a node hangs on. A flip-flop's data and what goes into a delay are left out: they count only at a rise, or later.
func hangsOn(n api.Node) []int {
	switch n.Kind {
	case api.NdFlip:
		return n.Ins[:1]
	case api.NdDelay:
		return nil
	}
	return n.Ins
}

// walk finds the levels of all nodes, or else a loop, at which it stops.
func (w *walker) walk() []int {
	for n := range w.nodes {
		if w.state[n] != unmet {
			continue
		}
		if loop := w.down(n); len(loop) > 0 {
			return loop
		}
	}
	return nil
}

// down finds the levels of a node and of all that it hangs on, or else a loop. On the way each node hangs on the next one: so one that hangs on a node of the way closes a loop.
func (w *walker) down(from int) []int {
	way := []int{from}
	w.state[from] = onWay
deeper:
	for len(way) > 0 {
		n := way[len(way)-1]
		on := hangsOn(w.nodes[n])
		for ; w.next[n] < len(on); w.next[n]++ {
			in := on[w.next[n]]
			switch w.state[in] {
			case onWay:
				return slices.Clone(way[slices.Index(way, in):])
			case unmet:
				w.state[in] = onWay
				way = append(way, in)
				continue deeper
			}
			w.level[n] = max(w.level[n], w.level[in]+1)
		}
		w.state[n] = done
		way = way[:len(way)-1]
	}
	return nil
}
