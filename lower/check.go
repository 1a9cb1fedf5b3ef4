package lower

import (
	"silkworm/api"
	"silkworm/logic"
)

// portsMayBe tells whether each net is a node, and each input just one net's.
func portsMayBe(l api.Netlist) bool {
	nets := make([]int, len(l.Nodes))
	for _, n := range l.Nets {
		if n < 0 || n >= len(l.Nodes) {
			return false
		}
		nets[n]++
	}
	for i, n := range l.Nodes {
		if n.Kind == api.NdIn && nets[i] != 1 {
			return false
		}
	}
	return true
}

// mayBe tells whether a node is as its kind asks for. It takes away what the kind gives a meaning: nothing else may be there.
func mayBe(n api.Node, all []api.Node) bool {
	ins, ok := widthsOf(n.Ins, all)
	if !ok || n.Wide < 1 || n.Wide > api.MaxWide || !fits(n, ins) {
		return false
	}
	switch n.Kind {
	case api.NdConst:
		n.Value = ""
	case api.NdOp:
		if n.Op == api.OpPart {
			n.Hi, n.Lo = 0, 0
		}
		n.Op = 0
	case api.NdDelay:
		n.Time = 0
	}
	return n.Op == 0 && n.Value == "" && n.Hi == 0 && n.Lo == 0 && n.Time == 0
}

// widthsOf is the widths of what goes in, if that is there.
func widthsOf(ins []int, all []api.Node) ([]int, bool) {
	var wides []int
	for _, n := range ins {
		if n < 0 || n >= len(all) {
			return nil, false
		}
		wides = append(wides, all[n].Wide)
	}
	return wides, true
}

// fits tells whether a node is right for what goes in, which is so wide.
func fits(n api.Node, ins []int) bool {
	switch n.Kind {
	case api.NdConst:
		return len(ins) == 0 && logic.Check(n.Value) == api.OK && len(n.Value) == n.Wide
	case api.NdIn:
		return len(ins) == 0
	case api.NdOp:
		return operates(n, ins)
	case api.NdChoose:
		return len(ins) == 3 && ins[1] == n.Wide && ins[2] == n.Wide
	case api.NdSame:
		return len(ins) == 2 && ins[0] == ins[1] && n.Wide == 1
	case api.NdWide:
		return len(ins) == 1
	case api.NdFlip:
		return len(ins) == 2 && ins[1] == n.Wide
	case api.NdDelay:
		return len(ins) == 1 && ins[0] == n.Wide && 1 <= n.Time && n.Time <= api.MaxDelay
	}
	return false
}

// operates tells it of an operator.
func operates(n api.Node, ins []int) bool {
	switch n.Op {
	case api.OpNot, api.OpNeg:
		return len(ins) == 1 && ins[0] == n.Wide
	case api.OpLog, api.OpAllR, api.OpAnyR, api.OpXorR:
		return len(ins) == 1 && n.Wide == 1
	case api.OpAdd, api.OpSub, api.OpAnd, api.OpOr, api.OpXor:
		return len(ins) == 2 && ins[0] == n.Wide && ins[1] == n.Wide
	case api.OpShl, api.OpShr:
		return len(ins) == 2 && ins[0] == n.Wide
	case api.OpLt, api.OpLe, api.OpGt, api.OpGe, api.OpEq, api.OpNe:
		return len(ins) == 2 && ins[0] == ins[1] && n.Wide == 1
	case api.OpLand, api.OpLor, api.OpBit:
		return len(ins) == 2 && n.Wide == 1
	case api.OpCond:
		return len(ins) == 3 && ins[1] == n.Wide && ins[2] == n.Wide
	case api.OpPart:
		return len(ins) == 1 && 0 <= n.Lo && n.Lo <= n.Hi && n.Hi < ins[0] && n.Wide == n.Hi-n.Lo+1
	case api.OpCat:
		return len(ins) > 0 && sum(ins) == n.Wide
	}
	return false
}

func sum(list []int) int {
	total := 0
	for _, n := range list {
		total += n
	}
	return total
}
