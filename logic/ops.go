package logic

import "silkworm/api"

func unary(op int, a string) string {
	switch op {
	case api.OpNot:
		return turned(a)
	case api.OpNeg:
		return difference(same("0", len(a)), a)
	case api.OpAllR:
		return string([]byte{allBits(table(api.OpAnd), '1', a)})
	case api.OpAnyR:
		return string([]byte{truth(a)})
	case api.OpXorR:
		return string([]byte{allBits(table(api.OpXor), '0', a)})
	}
	return turned(string([]byte{truth(a)}))
}

func binary(op int, a, b string) string {
	switch op {
	case api.OpShl, api.OpShr:
		return shifted(op, a, b)
	case api.OpLand:
		return ofTruths(api.OpAnd, a, b)
	case api.OpLor:
		return ofTruths(api.OpOr, a, b)
	}
	wide := max(len(a), len(b))
	return ofOneWidth(op, fit(a, wide), fit(b, wide))
}

func ofOneWidth(op int, a, b string) string {
	switch op {
	case api.OpAdd:
		return total(a, b)
	case api.OpSub:
		return difference(a, b)
	case api.OpAnd, api.OpOr, api.OpXor:
		return eachBit(table(op), a, b)
	}
	return compared(op, a, b)
}

func total(a, b string) string {
	if !known(a) || !known(b) {
		return same("x", len(a))
	}
	return sum(a, b, 0)
}

func difference(a, b string) string {
	if !known(a) || !known(b) {
		return same("x", len(a))
	}
	return sum(a, turned(b), 1)
}

func compared(op int, a, b string) string {
	if !known(a) || !known(b) {
		return "x"
	}
	if holds(op, a, b) {
		return "1"
	}
	return "0"
}

// holds may compare the texts: of one width and known, they stand in the order of their numbers.
func holds(op int, a, b string) bool {
	switch op {
	case api.OpLt:
		return a < b
	case api.OpLe:
		return a <= b
	case api.OpGt:
		return a > b
	case api.OpGe:
		return a >= b
	case api.OpEq:
		return a == b
	}
	return a != b
}

func shifted(op int, a, b string) string {
	if !known(b) {
		return same("x", len(a))
	}
	n := upTo(b, len(a))
	if op == api.OpShl {
		return a[n:] + same("0", n)
	}
	return same("0", n) + a[:len(a)-n]
}

func ofTruths(op int, a, b string) string {
	return string([]byte{table(op)[place(truth(a))][place(truth(b))]})
}
