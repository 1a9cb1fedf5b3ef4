package consts

import "silkworm/api"

const mostShift = 31

// partsOf is how many parts an operator has. -1: it is none that has a number.
func partsOf(op int) int {
	switch {
	case op == api.OpNeg || op == api.OpLog:
		return 1
	case api.OpAdd <= op && op <= api.OpLor:
		return 2
	case op == api.OpCond:
		return 3
	}
	return -1
}

// comesTo is the number of an operator over those of the first parts that were looked at, unless they may not be there.
func comesTo(op, a, b int) (n int, ok bool) {
	switch op {
	case api.OpCond:
		return b, true
	case api.OpNeg:
		return -a, true
	case api.OpAdd:
		return a + b, true
	case api.OpSub:
		return a - b, true
	case api.OpShl, api.OpShr:
		return shifted(op, a, b)
	case api.OpAnd, api.OpOr, api.OpXor:
		return bitwise(op, a, b)
	}
	if holds(op, a, b) {
		return 1, true
	}
	return 0, true
}

func shifted(op, a, b int) (n int, ok bool) {
	if b < 0 || b > mostShift {
		return 0, false
	}
	if op == api.OpShl {
		return a << b, true
	}
	return a >> b, true
}

func bitwise(op, a, b int) (n int, ok bool) {
	if a < 0 || b < 0 {
		return 0, false
	}
	switch op {
	case api.OpAnd:
		return a & b, true
	case api.OpOr:
		return a | b, true
	}
	return a ^ b, true
}

func holds(op, a, b int) bool {
	switch op {
	case api.OpLog:
		return a == 0
	case api.OpLand:
		return a != 0 && b != 0
	case api.OpLor:
		return a != 0 || b != 0
	case api.OpLt:
		return a < b
	case api.OpLe:
		return a <= b
	case api.OpGt:
		return a > b
	case api.OpGe:
		return a >= b
	case api.OpEq:
		return a == b
	}
	return a != b
}
