package syntax

import "silkworm/api"

// unaryOp is the operator of a sign ahead of its only part. 0: none.
func unaryOp(sign string) int {
	switch sign {
	case "~":
		return api.OpNot
	case "!":
		return api.OpLog
	case "-":
		return api.OpNeg
	case "&":
		return api.OpAllR
	case "|":
		return api.OpAnyR
	case "^":
		return api.OpXorR
	}
	return 0
}

// binaryOp is the operator of a sign between two parts, and how tightly it binds. 0: none.
func binaryOp(sign string) (op, tight int) {
	switch sign {
	case "||":
		return api.OpLor, 1
	case "&&":
		return api.OpLand, 2
	case "|":
		return api.OpOr, 3
	case "^":
		return api.OpXor, 4
	case "&":
		return api.OpAnd, 5
	case "==":
		return api.OpEq, 6
	case "!=":
		return api.OpNe, 6
	case "<":
		return api.OpLt, 7
	case "<=":
		return api.OpLe, 7
	case ">":
		return api.OpGt, 7
	case ">=":
		return api.OpGe, 7
	case "<<":
		return api.OpShl, 8
	case ">>":
		return api.OpShr, 8
	case "+":
		return api.OpAdd, 9
	case "-":
		return api.OpSub, 9
	}
	return 0, 0
}
