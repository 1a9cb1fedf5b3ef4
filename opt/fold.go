package opt

import (
	"silkworm/api"
	"silkworm/logic"
	"strings"
)

// fold makes constants of what hangs on constants alone.
func fold(l api.Netlist) api.Netlist {
	from := ends(l)
	users := usersOf(l, all)
	var open []int
	for i := range l.Nodes {
		open = append(open, i)
	}
	for len(open) > 0 {
		i := open[len(open)-1]
		open = open[:len(open)-1]
		if v, ok := constant(l, l.Nodes[i]); ok {
			l.Nodes[i] = api.Node{Kind: api.NdConst, Wide: len(v), Value: v}
			open = append(open, users[i]...)
		}
	}
	return kept(l, from)
}

// usersOf tells of each node into which ones it goes, by what is looked at of what goes in.
func usersOf(l api.Netlist, ins func(n api.Node) []int) [][]int {
	users := make([][]int, len(l.Nodes))
	for i, n := range l.Nodes {
		for _, in := range ins(n) {
			users[in] = append(users[in], i)
		}
	}
	return users
}

// all is all that goes into a node.
func all(n api.Node) []int {
	return n.Ins
}

// constant is the value that a node always has, if it hangs on constants alone.
func constant(l api.Netlist, n api.Node) (string, bool) {
	unknown := strings.Repeat("x", n.Wide)
	switch n.Kind {
	case api.NdConst, api.NdIn:
		return "", false
	case api.NdFlip:
		// A clock that never changes never rises, whatever the data is.
		return unknown, l.Nodes[n.Ins[0]].Kind == api.NdConst
	case api.NdDelay:
		// It is x at first: what else goes in comes out later.
		in := l.Nodes[n.Ins[0]]
		return unknown, in.Kind == api.NdConst && in.Value == unknown
	}
	var ins []string
	for _, in := range n.Ins {
		if l.Nodes[in].Kind != api.NdConst {
			return "", false
		}
		ins = append(ins, l.Nodes[in].Value)
	}
	return gate(n, ins), true
}

// gate is what a gate makes of values.
func gate(n api.Node, ins []string) string {
	v := ""
	switch n.Kind {
	case api.NdChoose:
		v = ins[2]
		if truth, _ := logic.Truth(ins[0]); truth == '1' {
			v = ins[1]
		}
	case api.NdSame:
		v = "0"
		if ins[0] == ins[1] {
			v = "1"
		}
	case api.NdWide:
		v, _ = logic.Fit(ins[0], n.Wide)
	case api.NdOp:
		v = operated(n, ins)
	}
	return v
}

// operated is what layer 1 makes of values.
func operated(n api.Node, ins []string) string {
	v := ""
	switch {
	case n.Op == api.OpCond:
		v, _ = logic.Cond(ins[0], ins[1], ins[2])
	case n.Op == api.OpBit:
		v, _ = logic.Bit(ins[0], ins[1])
	case n.Op == api.OpPart:
		v, _ = logic.Part(ins[0], n.Hi, n.Lo)
	case n.Op == api.OpCat:
		v = strings.Join(ins, "")
	case len(ins) == 1:
		v, _ = logic.Unary(n.Op, ins[0])
	default:
		v, _ = logic.Binary(n.Op, ins[0], ins[1])
	}
	return v
}
