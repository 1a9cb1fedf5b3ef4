package logic_test

import (
	"math/big"
	"silkworm/api"
	"strings"
)

// The chapter's words said once more, by whole numbers and cases instead of tables.

func isKnown(v string) bool { return !strings.ContainsAny(v, "xz") }

func numberOf(v string) *big.Int {
	n, ok := new(big.Int).SetString(v, 2)
	if !ok {
		panic(v)
	}
	return n
}

func vectorOf(n *big.Int, wide int) string {
	mod := new(big.Int).Lsh(big.NewInt(1), uint(wide))
	s := new(big.Int).Mod(n, mod).Text(2)
	return strings.Repeat("0", wide-len(s)) + s
}

func widened(v string, wide int) string {
	return strings.Repeat("0", wide-len(v)) + v
}

func truthOf(v string) byte {
	switch {
	case strings.Contains(v, "1"):
		return '1'
	case isKnown(v):
		return '0'
	}
	return 'x'
}

func bitOf(op int, a, b byte) byte {
	aKnown, bKnown := a == '0' || a == '1', b == '0' || b == '1'
	switch {
	case op == api.OpAnd && (a == '0' || b == '0'):
		return '0'
	case op == api.OpOr && (a == '1' || b == '1'):
		return '1'
	case !aKnown || !bKnown:
		return 'x'
	case op == api.OpAnd:
		return '1'
	case op == api.OpOr || a == b:
		return '0'
	}
	return '1'
}

func yes(b bool) string {
	if b {
		return "1"
	}
	return "0"
}

func wantUnary(op int, a string) string {
	switch op {
	case api.OpNot:
		return strings.NewReplacer("0", "1", "1", "0", "z", "x").Replace(a)
	case api.OpNeg:
		if !isKnown(a) {
			return strings.Repeat("x", len(a))
		}
		return vectorOf(new(big.Int).Neg(numberOf(a)), len(a))
	case api.OpAllR:
		switch {
		case strings.Contains(a, "0"):
			return "0"
		case isKnown(a):
			return "1"
		}
		return "x"
	case api.OpAnyR:
		return string(rune(truthOf(a)))
	case api.OpXorR:
		if !isKnown(a) {
			return "x"
		}
		return yes(strings.Count(a, "1")%2 == 1)
	case api.OpLog:
		return map[byte]string{'0': "1", '1': "0", 'x': "x"}[truthOf(a)]
	}
	panic(op)
}

func wantShift(op int, a, b string) string {
	if !isKnown(b) {
		return strings.Repeat("x", len(a))
	}
	out := []byte(strings.Repeat("0", len(a)))
	by := numberOf(b)
	for i := range a {
		to := new(big.Int).Add(big.NewInt(int64(i)), by)
		if op == api.OpShl {
			to = new(big.Int).Sub(big.NewInt(int64(i)), by)
		}
		if to.IsInt64() && to.Int64() >= 0 && to.Int64() < int64(len(a)) {
			out[to.Int64()] = a[i]
		}
	}
	return string(out)
}

func wantBinary(op int, a, b string) string {
	switch op {
	case api.OpShl, api.OpShr:
		return wantShift(op, a, b)
	case api.OpLand:
		return string(rune(bitOf(api.OpAnd, truthOf(a), truthOf(b))))
	case api.OpLor:
		return string(rune(bitOf(api.OpOr, truthOf(a), truthOf(b))))
	}
	wide := max(len(a), len(b))
	a, b = widened(a, wide), widened(b, wide)
	if op == api.OpAnd || op == api.OpOr || op == api.OpXor {
		out := make([]byte, wide)
		for i := range out {
			out[i] = bitOf(op, a[i], b[i])
		}
		return string(out)
	}
	if !isKnown(a) || !isKnown(b) {
		if op == api.OpAdd || op == api.OpSub {
			return strings.Repeat("x", wide)
		}
		return "x"
	}
	return wantOfNumbers(op, numberOf(a), numberOf(b), wide)
}

func wantOfNumbers(op int, m, n *big.Int, wide int) string {
	order := m.Cmp(n)
	switch op {
	case api.OpAdd:
		return vectorOf(new(big.Int).Add(m, n), wide)
	case api.OpSub:
		return vectorOf(new(big.Int).Sub(m, n), wide)
	case api.OpLt:
		return yes(order < 0)
	case api.OpLe:
		return yes(order <= 0)
	case api.OpGt:
		return yes(order > 0)
	case api.OpGe:
		return yes(order >= 0)
	case api.OpEq:
		return yes(order == 0)
	case api.OpNe:
		return yes(order != 0)
	}
	panic(op)
}

func wantCond(c, a, b string) string {
	switch truthOf(c) {
	case '1':
		return a
	case '0':
		return b
	}
	out := []byte(strings.Repeat("x", len(a)))
	for i := range out {
		if a[i] == b[i] && a[i] != 'z' {
			out[i] = a[i]
		}
	}
	return string(out)
}

func wantBit(v, at string) string {
	if !isKnown(at) || numberOf(at).Cmp(big.NewInt(int64(len(v)))) >= 0 {
		return "x"
	}
	i := len(v) - 1 - int(numberOf(at).Int64())
	return v[i : i+1]
}
