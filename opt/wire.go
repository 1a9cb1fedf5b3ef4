package opt

import (
	"silkworm/api"
	"silkworm/logic"
	"strings"
)

// wire lets what is just another node give way to that. A port that is just an input stays an NdWide: an input is one port's alone.
func wire(l api.Netlist) api.Netlist {
	from := ends(l)
	f := follower{nodes: l.Nodes, to: make([]int, len(l.Nodes)), hasZ: mayHaveZ(l), met: make([]bool, len(l.Nodes))}
	for i := range l.Nodes {
		f.follow(i)
	}
	for i, n := range l.Nets {
		to := f.to[n]
		if to != n && l.Nodes[to].Kind == api.NdIn {
			l.Nodes[n] = api.Node{Kind: api.NdWide, Wide: l.Nodes[n].Wide, Ins: []int{to}}
		} else {
			l.Nets[i] = to
		}
	}
	copy(from, l.Nets)
	for _, n := range l.Nodes {
		renumbered(n.Ins, f.to)
	}
	return kept(l, from)
}

// follower finds out which node each one just is.
type follower struct {
	nodes []api.Node
	to    []int // that node's number
	hasZ  []bool
	met   []bool
}

// follow is the node that one just is: itself, if it is none other's.
func (f *follower) follow(i int) int {
	if f.met[i] {
		return f.to[i]
	}
	f.met[i], f.to[i] = true, i
	n := f.nodes[i]
	switch {
	case isWhole(n, f.nodes):
		f.to[i] = f.follow(n.Ins[0])
	case n.Kind == api.NdChoose || n.Kind == api.NdOp && n.Op == api.OpCond:
		yes, no := f.follow(n.Ins[1]), f.follow(n.Ins[2])
		if yes == no && (n.Kind == api.NdChoose || !f.hasZ[yes] || isSure(f.nodes[n.Ins[0]])) {
			f.to[i] = yes
		}
	}
	return f.to[i]
}

// isSure tells whether a node's truth is always known: by one that is not OpCond makes x of z.
func isSure(n api.Node) bool {
	truth, _ := logic.Truth(n.Value)
	return n.Kind == api.NdSame || n.Kind == api.NdConst && truth != 'x'
}

// isWhole tells whether a node is all bits of the one that goes in, and no other ones.
func isWhole(n api.Node, all []api.Node) bool {
	moves := n.Kind == api.NdWide || n.Kind == api.NdOp && (n.Op == api.OpPart || n.Op == api.OpCat)
	return moves && len(n.Ins) == 1 && n.Wide == all[n.Ins[0]].Wide
}

// mayHaveZ tells which nodes may have a bit that is z: inputs, constants, and what lets bits of such ones through.
func mayHaveZ(l api.Netlist) []bool {
	users := usersOf(l, through)
	found := make([]bool, len(l.Nodes))
	var open []int
	for i, n := range l.Nodes {
		if n.Kind == api.NdIn || strings.Contains(n.Value, "z") {
			open = append(open, i)
		}
	}
	for len(open) > 0 {
		i := open[len(open)-1]
		open = open[:len(open)-1]
		if !found[i] {
			found[i] = true
			open = append(open, users[i]...)
		}
	}
	return found
}

// through is what goes into a node of which a bit may come out as it is.
func through(n api.Node) []int {
	switch n.Kind {
	case api.NdWide, api.NdDelay:
		return n.Ins
	case api.NdChoose, api.NdFlip:
		return n.Ins[1:]
	}
	switch n.Op {
	case api.OpPart, api.OpCat:
		return n.Ins
	case api.OpCond:
		return n.Ins[1:]
	case api.OpShl, api.OpShr, api.OpBit:
		return n.Ins[:1]
	}
	return nil
}
