package opt

import (
	"silkworm/api"
	"silkworm/gates"
	"strings"
)

// fold makes constants of what hangs on constants alone.
func fold(l api.Netlist) api.Netlist {
	from := ends(l)
	users := usersOf(l, all)
	var open []int
	for i := range l.Nodes {
		open = append(open, i)
	}
	for len(open) > 0 {
		i := open[len(open)-1]
		open = open[:len(open)-1]
		if v, ok := constant(l, l.Nodes[i]); ok {
			l.Nodes[i] = api.Node{Kind: api.NdConst, Wide: len(v), Value: v}
			open = append(open, users[i]...)
		}
	}
	return kept(l, from)
}

// usersOf tells of each node into which ones it goes, by what is looked at of what goes in.
func usersOf(l api.Netlist, ins func(n api.Node) []int) [][]int {
	users := make([][]int, len(l.Nodes))
	for i, n := range l.Nodes {
		for _, in := range ins(n) {
			users[in] = append(users[in], i)
		}
	}
	return users
}

// all is all that goes into a node.
func all(n api.Node) []int {
	return n.Ins
}

// constant is the value that a node always has, if it hangs on constants alone.
func constant(l api.Netlist, n api.Node) (string, bool) {
	unknown := strings.Repeat("x", n.Wide)
	switch n.Kind {
	case api.NdConst, api.NdIn:
		return "", false
	case api.NdFlip:
		// A clock that never changes never rises, whatever the data is.
		return unknown, l.Nodes[n.Ins[0]].Kind == api.NdConst
	case api.NdDelay:
		// It is x at first: what else goes in comes out later.
		in := l.Nodes[n.Ins[0]]
		return unknown, in.Kind == api.NdConst && in.Value == unknown
	}
	var ins []string
	for _, in := range n.Ins {
		if l.Nodes[in].Kind != api.NdConst {
			return "", false
		}
		ins = append(ins, l.Nodes[in].Value)
	}
	return gates.Value(n, ins), true
}
