package gates_test

import (
	"silkworm/api"
	"silkworm/gates"
	"silkworm/logic"
	"strings"
	"testing"
)

func op(op, wide int) api.Node {
	return api.Node{Kind: api.NdOp, Op: op, Wide: wide}
}

func TestKinds(t *testing.T) {
	choose, same := api.Node{Kind: api.NdChoose, Wide: 2}, api.Node{Kind: api.NdSame, Wide: 1}
	for _, c := range []struct {
		n    api.Node
		ins  string
		want string
	}{
		{api.Node{Kind: api.NdConst, Wide: 2, Value: "z1"}, "", "z1"},
		{choose, "1 01 10", "01"}, {choose, "0 01 10", "10"}, {choose, "x 01 10", "10"}, {choose, "z 01 10", "10"},
		{choose, "x1 0z 10", "0z"}, {choose, "x0 01 1z", "1z"}, {choose, "x 01 01", "01"},
		{same, "1 1", "1"}, {same, "1 0", "0"}, {same, "x x", "1"}, {same, "x z", "0"}, {same, "0x1z 0x1z", "1"}, {same, "0x1z 0x1x", "0"},
		{api.Node{Kind: api.NdWide, Wide: 4}, "z1", "00z1"}, {api.Node{Kind: api.NdWide, Wide: 1}, "z1", "1"}, {api.Node{Kind: api.NdWide, Wide: 2}, "xz", "xz"},
		{op(api.OpCond, 2), "1 01 10", "01"}, {op(api.OpCond, 2), "x 01 11", "x1"}, {op(api.OpCond, 2), "00 01 1z", "1z"},
		{op(api.OpBit, 1), "01z 00", "z"}, {op(api.OpBit, 1), "01z 11", "x"}, {op(api.OpBit, 1), "01z x", "x"},
		{op(api.OpCat, 4), "0 1z x", "01zx"}, {op(api.OpCat, 2), "1z", "1z"},
		{api.Node{Kind: api.NdOp, Op: api.OpPart, Wide: 2, Hi: 2, Lo: 1}, "01z0", "1z"}, {api.Node{Kind: api.NdOp, Op: api.OpPart, Wide: 1}, "01z0", "0"},
		{op(api.OpNeg, 3), "001", "111"}, {op(api.OpLog, 1), "0x", "x"}, {op(api.OpSub, 2), "00 01", "11"}, {op(api.OpShl, 3), "011 1", "110"},
		{op(api.OpLt, 1), "01 10", "1"}, {op(api.OpLor, 1), "00 0x1", "1"},
	} {
		if v := gates.Value(c.n, strings.Fields(c.ins)); v != c.want {
			t.Errorf("%v of %s: %s, not %s", c.n, c.ins, v, c.want)
		}
	}
}

// Each operator is layer 1's.
func TestOperators(t *testing.T) {
	list := []string{"00", "01", "10", "11", "x1", "0z", "xx"}
	for _, a := range list {
		for n := api.OpNot; n <= api.OpXorR; n++ {
			if want, e := logic.Unary(n, a); e != api.OK || gates.Value(op(n, len(want)), []string{a}) != want {
				t.Errorf("%d of %s: not %s", n, a, want)
			}
		}
		for _, b := range list {
			for n := api.OpAdd; n <= api.OpLor; n++ {
				if want, e := logic.Binary(n, a, b); e != api.OK || gates.Value(op(n, len(want)), []string{a, b}) != want {
					t.Errorf("%d of %s and %s: not %s", n, a, b, want)
				}
			}
		}
	}
}

// What hangs on what was ahead is no gate.
func TestOthers(t *testing.T) {
	for _, kind := range []int{api.NdIn, api.NdFlip, api.NdDelay} {
		if v := gates.Value(api.Node{Kind: kind, Wide: 1}, []string{"1", "1"}); v != "" {
			t.Error(kind, v)
		}
	}
}
