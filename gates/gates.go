// Package gates is what the gates of a netlist make of values: passes and simulations of several layers go by it.
package gates

import (
	"silkworm/api"
	"silkworm/logic"
	"strings"
)

// Value is what a constant or a gate of a netlist that may be makes of the values that go in, layer 9's words; of an input, a flip-flop and a delay, which hang on what was ahead, it is empty.
func Value(n api.Node, ins []string) string {
	v := ""
	switch n.Kind {
	case api.NdConst:
		v = n.Value
	case api.NdChoose:
		v = ins[2]
		if truth, _ := logic.Truth(ins[0]); truth == '1' {
			v = ins[1]
		}
	case api.NdSame:
		v = "0"
		if ins[0] == ins[1] {
			v = "1"
		}
	case api.NdWide:
		v, _ = logic.Fit(ins[0], n.Wide)
	case api.NdOp:
		v = operated(n, ins)
	}
	return v
}

// operated is what layer 1 makes of values.
func operated(n api.Node, ins []string) string {
	v := ""
	switch {
	case n.Op == api.OpCond:
		v, _ = logic.Cond(ins[0], ins[1], ins[2])
	case n.Op == api.OpBit:
		v, _ = logic.Bit(ins[0], ins[1])
	case n.Op == api.OpPart:
		v, _ = logic.Part(ins[0], n.Hi, n.Lo)
	case n.Op == api.OpCat:
		v = strings.Join(ins, "")
	case len(ins) == 1:
		v, _ = logic.Unary(n.Op, ins[0])
	default:
		v, _ = logic.Binary(n.Op, ins[0], ins[1])
	}
	return v
}
