package consts_test

import (
	"fmt"
	"silkworm/api"
	"silkworm/consts"
	"silkworm/lexer"
	"silkworm/syntax"
	"strings"
	"testing"
)

const (
	most  = 1<<31 - 1
	least = -(1 << 31) + 1
)

// exprOf is an expression as layer 4 reads it; its places are counted from its own first byte on.
func exprOf(t *testing.T, source string) api.Expr {
	t.Helper()
	ahead := "module m(); assign y = "
	l, why := lexer.Lex(ahead + source + "; endmodule")
	if len(why) > 0 {
		t.Fatalf("%q: %v", source, why)
	}
	m, why := syntax.Parse(l)
	if len(why) > 0 {
		t.Fatalf("%q: %v", source, why)
	}
	return moved(m[0].Items[0].Value, -len(ahead))
}

func moved(x api.Expr, by int) api.Expr {
	x.At += by
	kids := make([]api.Expr, len(x.Kids))
	for i, k := range x.Kids {
		kids[i] = moved(k, by)
	}
	x.Kids = kids
	return x
}

// given is numbers that most tests use; B has the greatest one, L the least one, and no name K is there.
func given() map[string]int {
	return map[string]int{"N": 3, "M": -4, "Z": 0, "I": 1, "J": -1, "B": most, "L": least}
}

func scopeWith(t *testing.T, names map[string]int) *consts.Scope {
	t.Helper()
	s := consts.New()
	for name, n := range names {
		if e := s.Set(name, n); e != api.OK {
			t.Fatalf("Set(%q, %d): %d", name, n, e)
		}
	}
	return s
}

// is tells what an expression comes to, in the given scope.
func is(t *testing.T, source string, want int) {
	t.Helper()
	exprIs(t, exprOf(t, source), want)
}

// refused tells the reason of an expression, in the given scope.
func refused(t *testing.T, source string, at int, code api.Errno) {
	t.Helper()
	exprRefused(t, exprOf(t, source), at, code)
}

func exprIs(t *testing.T, x api.Expr, want int) {
	t.Helper()
	told(t, scopeWith(t, given()), x, want, api.Diag{})
}

func exprRefused(t *testing.T, x api.Expr, at int, code api.Errno) {
	t.Helper()
	told(t, scopeWith(t, given()), x, 0, api.Diag{At: at, Code: code})
}

func told(t *testing.T, s *consts.Scope, x api.Expr, want int, why api.Diag) {
	t.Helper()
	if n, d := s.Eval(x); n != want || d != why {
		t.Errorf("%s: %d %v, not %d %v", shown(x, 4), n, d, want, why)
	}
}

// shown is an expression down to some levels: some of the tests' have no end.
func shown(x api.Expr, room int) string {
	s := fmt.Sprintf("%d@%d %.40q %.40q", x.Op, x.At, x.Name, x.Value)
	if len(x.Kids) == 0 || room == 0 {
		return s
	}
	for _, k := range x.Kids[:min(len(x.Kids), 4)] {
		s += " (" + shown(k, room-1) + ")"
	}
	return s
}

func getIs(t *testing.T, s *consts.Scope, name string, want int, there bool) {
	t.Helper()
	if n, ok := s.Get(name); n != want || ok != there {
		t.Errorf("Get(%q): %d %v, not %d %v", name, n, ok, want, there)
	}
}

func name(s string, at int) api.Expr {
	return api.Expr{Op: api.OpName, Name: s, At: at}
}

func bits(v string, at int) api.Expr {
	return api.Expr{Op: api.OpNum, Value: v, At: at}
}

func node(op, at int, kids ...api.Expr) api.Expr {
	return api.Expr{Op: op, Kids: kids, At: at}
}

// partsOf is how many parts an operator has; -1: it is none that has a number.
func partsOf(op int) int {
	switch op {
	case api.OpNeg, api.OpLog:
		return 1
	case api.OpAdd, api.OpSub, api.OpShl, api.OpShr, api.OpLt, api.OpLe, api.OpGt, api.OpGe, api.OpEq, api.OpNe, api.OpAnd, api.OpXor, api.OpOr, api.OpLand, api.OpLor:
		return 2
	case api.OpCond:
		return 3
	}
	return -1
}

func withoutNumber() []int {
	return []int{api.OpBit, api.OpPart, api.OpCat, api.OpNot, api.OpAllR, api.OpAnyR, api.OpXorR}
}

func noOperators() []int {
	return []int{-1 << 63, -28, -13, -1, 0, api.OpLor + 1, api.OpLor + 2, 60, 256 + api.OpAdd, 1<<32 + api.OpAdd, 1<<63 - 1}
}

// noNumbers is values that are no vectors, that are not known, or that are above the greatest number.
func noNumbers() []string {
	return []string{
		"", "2", "X", "-1", " 1", "1 ", "0\x00", "é", "12", "0_1", strings.Repeat("0", 257), strings.Repeat("0", 1<<16), strings.Repeat("1", 300),
		"x", "z", "0x", "x1", "1z0", "z" + strings.Repeat("0", 255), strings.Repeat("0", 255) + "x", strings.Repeat("x", 32), strings.Repeat("1", 40) + "x",
		"1" + strings.Repeat("0", 31), "1" + strings.Repeat("0", 30) + "1", strings.Repeat("1", 32), "1" + strings.Repeat("0", 32), "1" + strings.Repeat("0", 63), "1" + strings.Repeat("0", 64), strings.Repeat("1", 64), strings.Repeat("1", 256), "1" + strings.Repeat("0", 255),
		"0" + strings.Repeat("1", 32), strings.Repeat("0", 200) + "1" + strings.Repeat("0", 31),
	}
}

// edges is numbers about which an operator may turn.
func edges() []int {
	return []int{
		least, least + 1, least + 2, -(1 << 30) - 1, -(1 << 30), -(1 << 30) + 1, -65536, -33, -32, -31, -3, -2, -1,
		0, 1, 2, 3, 5, 6, 30, 31, 32, 33, 63, 64, 255, 65536, 1<<30 - 1, 1 << 30, 1<<30 + 1, most - 2, most - 1, most,
	}
}

type dice uint32

func (d *dice) roll(n int) int {
	*d = *d*1664525 + 1013904223
	return int(*d>>8) % n
}
