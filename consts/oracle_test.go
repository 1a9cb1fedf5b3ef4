package consts_test

import (
	"fmt"
	"math/big"
	"silkworm/api"
	"strings"
	"testing"
)

// The chapter's words once more, in whole numbers of any size.

type reason api.Diag

func expected(names map[string]int, x api.Expr) (n int, why api.Diag) {
	defer func() {
		if r := recover(); r != nil {
			n, why = 0, api.Diag(r.(reason))
		}
	}()
	return int(value(names, x).Int64()), api.Diag{}
}

func value(names map[string]int, x api.Expr) *big.Int {
	stop := func(code api.Errno) { panic(reason{At: x.At, Code: code}) }
	switch x.Op {
	case api.OpNum:
		n, ok := new(big.Int).SetString("0"+x.Value, 2)
		if !ok || strings.Trim(x.Value, "01") != "" || len(x.Value) == 0 || len(x.Value) > 256 || n.Cmp(big.NewInt(most)) > 0 {
			stop(api.ErrConst)
		}
		return n
	case api.OpName:
		n, ok := names[x.Name]
		if !ok {
			stop(api.ErrWord)
		}
		return big.NewInt(int64(n))
	}
	for _, op := range withoutNumber() {
		if x.Op == op {
			stop(api.ErrConst)
		}
	}
	if x.Op == api.OpCond && len(x.Kids) == 3 {
		if value(names, x.Kids[0]).Sign() != 0 {
			return value(names, x.Kids[1])
		}
		return value(names, x.Kids[2])
	}
	var parts []*big.Int
	for _, k := range x.Kids {
		parts = append(parts, value(names, k))
	}
	if len(parts) != partsOf(x.Op) {
		stop(api.ErrConst)
	}
	n := applied(x.Op, parts)
	if n == nil || n.CmpAbs(big.NewInt(most)) > 0 {
		stop(api.ErrOver)
	}
	return n
}

// applied is an operator's number, nil where its parts may not be.
func applied(op int, p []*big.Int) *big.Int {
	a, n := p[0], new(big.Int)
	b := p[len(p)-1]
	truth := func(holds bool) *big.Int {
		if holds {
			return n.SetInt64(1)
		}
		return n
	}
	switch op {
	case api.OpNeg:
		return n.Neg(a)
	case api.OpLog:
		return truth(a.Sign() == 0)
	case api.OpAdd:
		return n.Add(a, b)
	case api.OpSub:
		return n.Sub(a, b)
	case api.OpLt, api.OpLe, api.OpGt, api.OpGe, api.OpEq, api.OpNe:
		signs := []string{"-", "-0", "+", "0+", "0", "-+"}[op-api.OpLt]
		return truth(strings.Contains(signs, []string{"-", "0", "+"}[a.Cmp(b)+1]))
	case api.OpLand:
		return truth(a.Sign() != 0 && b.Sign() != 0)
	case api.OpLor:
		return truth(a.Sign() != 0 || b.Sign() != 0)
	case api.OpShl, api.OpShr:
		if b.Sign() < 0 || b.Cmp(big.NewInt(31)) > 0 {
			return nil
		}
		power := new(big.Int).Exp(big.NewInt(2), b, nil)
		if op == api.OpShl {
			return n.Mul(a, power)
		}
		return n.Div(a, power) // of a divisor above 0 it rounds down
	}
	if a.Sign() < 0 || b.Sign() < 0 {
		return nil
	}
	switch op {
	case api.OpAnd:
		return n.And(a, b)
	case api.OpOr:
		return n.Or(a, b)
	}
	return n.Xor(a, b)
}

func TestCn2EachOperatorAtItsEdges(t *testing.T) {
	for op := api.OpCond; op <= api.OpLor; op++ {
		for _, a := range edges() {
			for _, b := range edges() {
				names := map[string]int{"A": a, "B": b, "C": -7}
				x := node(op, 5, []api.Expr{name("A", 1), name("B", 2), name("C", 3)}[:max(partsOf(op), 0)]...)
				n, why := expected(names, x)
				told(t, scopeWith(t, names), x, n, why)
			}
		}
	}
}

// grown is an expression of so many levels at the most; of each hundred of its parts so many are wrong.
func (d *dice) grown(room, wrong int) api.Expr {
	x := api.Expr{At: d.roll(2000) - 500}
	if d.roll(100) < wrong {
		d.spoil(&x, room)
		return x
	}
	if room == 0 || d.roll(8) == 0 {
		x.Op, x.Name = api.OpName, []string{"N", "M", "Z", "I", "J", "B", "L"}[d.roll(7)]
		if d.roll(2) == 0 {
			x.Op, x.Name = api.OpNum, ""
			x.Value = fmt.Sprintf("%0*b", 1+d.roll(200), d.roll(1<<31)>>d.roll(32))
		}
		return x
	}
	for partsOf(x.Op) < 0 {
		x.Op = api.OpCond + d.roll(api.OpLor-api.OpCond+1)
	}
	for range partsOf(x.Op) {
		x.Kids = append(x.Kids, d.grown(room-1, wrong))
	}
	return x
}

func (d *dice) spoil(x *api.Expr, room int) {
	x.Op, x.Name, x.Value = api.OpCond+d.roll(api.OpLor-api.OpCond+1), "K", "1x"
	switch d.roll(6) {
	case 0:
		x.Op = withoutNumber()[d.roll(len(withoutNumber()))]
	case 1:
		x.Op = noOperators()[d.roll(len(noOperators()))]
	case 2:
		x.Op = api.OpName
	case 3:
		x.Op, x.Value = api.OpNum, noNumbers()[d.roll(len(noNumbers()))]
	}
	for range d.roll(5) {
		x.Kids = append(x.Kids, d.grown(max(room-1, 0), 20))
	}
}

func TestCn2AnyExpression(t *testing.T) {
	d := dice(62)
	s := scopeWith(t, given())
	codes := map[api.Errno]int{}
	for i := range 60000 {
		x := d.grown(i%7, []int{0, 0, 2, 10, 40}[i%5])
		n, why := expected(given(), x)
		told(t, s, x, n, why)
		codes[why.Code]++
	}
	for _, code := range []api.Errno{api.OK, api.ErrConst, api.ErrWord, api.ErrOver} {
		if codes[code] < 3000 {
			t.Errorf("only %d with the code %d", codes[code], code)
		}
	}
}
