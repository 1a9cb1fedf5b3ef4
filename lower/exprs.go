package lower

import (
	"silkworm/api"
	"silkworm/logic"
)

// expr is the node of an expression, as wide as it is needed, which is not less than its own width.
func (b *builder) expr(x *api.Expr, wide int, see known) int {
	switch x.Op {
	case api.OpNum:
		return b.number(x.Value, wide)
	case api.OpNot, api.OpNeg:
		return b.operator(x.Op, wide, b.expr(&x.Kids[0], wide, see))
	case api.OpAdd, api.OpSub, api.OpAnd, api.OpOr, api.OpXor:
		return b.operator(x.Op, wide, b.expr(&x.Kids[0], wide, see), b.expr(&x.Kids[1], wide, see))
	case api.OpShl, api.OpShr:
		return b.operator(x.Op, wide, b.expr(&x.Kids[0], wide, see), b.alone(&x.Kids[1], see))
	case api.OpCond:
		return b.operator(x.Op, wide, b.alone(&x.Kids[0], see), b.expr(&x.Kids[1], wide, see), b.expr(&x.Kids[2], wide, see))
	}
	return b.fit(b.narrow(x, see), wide)
}

// alone is the node of an expression that stands by itself.
func (b *builder) alone(x *api.Expr, see known) int {
	return b.expr(x, b.own(x), see)
}

// narrow is the node of an expression whose parts do not hang on how wide it is needed.
func (b *builder) narrow(x *api.Expr, see known) int {
	switch x.Op {
	case api.OpName:
		return see(b.named(x.Name))
	case api.OpBit:
		return b.operator(x.Op, 1, see(b.named(x.Name)), b.alone(&x.Kids[0], see))
	case api.OpPart:
		return b.part(see(b.named(x.Name)), bound(&x.Kids[0]), bound(&x.Kids[1]))
	case api.OpLt, api.OpLe, api.OpGt, api.OpGe, api.OpEq, api.OpNe:
		wide := max(b.own(&x.Kids[0]), b.own(&x.Kids[1]))
		return b.operator(x.Op, 1, b.expr(&x.Kids[0], wide, see), b.expr(&x.Kids[1], wide, see))
	}
	var ins []int
	for i := range x.Kids {
		ins = append(ins, b.alone(&x.Kids[i], see))
	}
	return b.operator(x.Op, b.own(x), ins...)
}

// bound is one of a part's, which is a number.
func bound(x *api.Expr) int {
	n, _ := logic.Number(x.Value)
	return n
}
