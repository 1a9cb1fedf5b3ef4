package opt

import (
	"silkworm/api"
	"slices"
)

// dead leaves what a port hangs on.
func dead(l api.Netlist) api.Netlist {
	return kept(l, l.Nets)
}

// reached tells the nodes that some hang on, by whatever goes in, and they themselves.
func reached(l api.Netlist, from []int) []bool {
	found := make([]bool, len(l.Nodes))
	for open := slices.Clone(from); len(open) > 0; {
		n := open[len(open)-1]
		open = open[:len(open)-1]
		if !found[n] {
			found[n] = true
			open = append(open, l.Nodes[n].Ins...)
		}
	}
	return found
}

// kept leaves the nodes that some hang on, in their order.
func kept(l api.Netlist, from []int) api.Netlist {
	stays := reached(l, from)
	number := make([]int, len(l.Nodes))
	out := api.Netlist{Nets: l.Nets, Ports: l.Ports}
	for i, n := range l.Nodes {
		if stays[i] {
			number[i] = len(out.Nodes)
			out.Nodes = append(out.Nodes, n)
		}
	}
	renumbered(out.Nets, number)
	for _, n := range out.Nodes {
		renumbered(n.Ins, number)
	}
	return out
}

func renumbered(list, number []int) {
	for i, n := range list {
		list[i] = number[n]
	}
}

// ends is where a pass other than dead begins to look for what stays: at the ports, and at what no port hung on ahead of it. So what it puts out of use is gone, and nothing else.
func ends(l api.Netlist) []int {
	out := slices.Clone(l.Nets)
	for i, used := range reached(l, l.Nets) {
		if !used {
			out = append(out, i)
		}
	}
	return out
}
