package elab

import (
	"math"
	"silkworm/api"
	"silkworm/logic"
)

// counted tells whether an expression has as many parts as its operator.
func counted(x *api.Expr) bool {
	n := len(x.Kids)
	switch {
	case x.Op == api.OpNum || x.Op == api.OpName:
		return n == 0
	case x.Op == api.OpBit || api.OpNot <= x.Op && x.Op <= api.OpXorR:
		return n == 1
	case x.Op == api.OpPart || api.OpAdd <= x.Op && x.Op <= api.OpLor:
		return n == 2
	case x.Op == api.OpCond:
		return n == 3
	}
	return x.Op == api.OpCat && n > 0
}

// ownWidth is an expression's, by those of its parts; that of a name and of a part hangs on a net.
func ownWidth(x *api.Expr, parts []int) (int, api.Errno) {
	if !counted(x) {
		return 0, api.ErrConst
	}
	switch x.Op {
	case api.OpNum:
		return numberWidth(x.Value)
	case api.OpCat:
		return catWidth(parts)
	case api.OpCond:
		return max(parts[1], parts[2]), api.OK
	case api.OpAdd, api.OpSub, api.OpAnd, api.OpOr, api.OpXor:
		return max(parts[0], parts[1]), api.OK
	case api.OpNot, api.OpNeg, api.OpShl, api.OpShr:
		return parts[0], api.OK
	}
	return 1, api.OK
}

func numberWidth(v string) (int, api.Errno) {
	if logic.Check(v) != api.OK {
		return 0, api.ErrConst
	}
	return len(v), api.OK
}

func catWidth(parts []int) (int, api.Errno) {
	sum := 0
	for _, wide := range parts {
		if wide > 0 && sum > math.MaxInt-wide {
			return 0, api.ErrSize
		}
		sum += wide
	}
	if sum > api.MaxWide {
		return 0, api.ErrSize
	}
	return sum, api.OK
}

// within tells whether a net of a width has the bits from hi down to lo.
func within(hi, lo, wide int) bool {
	return 0 <= lo && lo <= hi && hi < wide
}
