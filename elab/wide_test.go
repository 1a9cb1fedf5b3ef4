package elab_test

import (
	"silkworm/api"
	"silkworm/elab"
	"slices"
	"strings"
	"testing"
)

// netsOfTests is some nets; the second one of the name d does not count.
func netsOfTests() []api.Net {
	return []api.Net{{Name: "a", Wide: 1}, {Name: "d", Wide: 4}, {Name: "u.w", Wide: 32}, {Name: "d", Wide: 9}, {Name: "g[2].h", Wide: 128}, {Name: "b", Wide: 256}, {Name: "", Wide: 7}}
}

func named(op int, name string, at int, kids ...api.Expr) api.Expr {
	return api.Expr{Op: op, Name: name, Kids: kids, At: at}
}

func net(name string, at int) api.Expr {
	return named(api.OpName, name, at)
}

func bits(v string, at int) api.Expr {
	return api.Expr{Op: api.OpNum, Value: v, At: at}
}

func node(op, at int, kids ...api.Expr) api.Expr {
	return api.Expr{Op: op, Kids: kids, At: at}
}

func wideIs(t *testing.T, x api.Expr, want int) {
	t.Helper()
	wideTold(t, x, netsOfTests(), want, api.Diag{})
}

func wideRefused(t *testing.T, x api.Expr, at int, code api.Errno) {
	t.Helper()
	wideTold(t, x, netsOfTests(), 0, api.Diag{At: at, Code: code})
}

func wideTold(t *testing.T, x api.Expr, nets []api.Net, want int, why api.Diag) {
	t.Helper()
	if n, d := elab.Wide(x, nets); n != want || d != why {
		t.Errorf("%d %q of %d parts: %d %v, not %d %v", x.Op, x.Name, len(x.Kids), n, d, want, why)
	}
}

func TestEl3OwnWidths(t *testing.T) {
	for value, wide := range widths() {
		f := built(t, head+value+"; endmodule")
		wideTold(t, f.Procs[0].Value, f.Nets, wide, api.Diag{})
	}
	wideIs(t, net("a", 1), 1)
	wideIs(t, net("d", 1), 4)
	wideIs(t, net("u.w", 1), 32)
	wideIs(t, net("g[2].h", 1), 128)
	wideIs(t, net("", 1), 7)
	wideIs(t, bits("1", 1), 1)
	wideIs(t, bits("zx01", 1), 4)
	wideIs(t, bits(strings.Repeat("x", 256), 1), 256)
	wideIs(t, named(api.OpBit, "b", 1, net("u.w", 2)), 1)
	wideIs(t, named(api.OpBit, "a", 1, bits("x", 2)), 1)
	wideIs(t, node(api.OpCat, 1, net("a", 2)), 1)
	wideIs(t, node(api.OpCat, 1, net("g[2].h", 2), net("g[2].h", 3)), 256)
	wideIs(t, node(api.OpCat, 1, slices.Repeat([]api.Expr{net("a", 2)}, 256)...), 256)
}

// Each operator, over parts of all pairs of widths.
func TestEl3EachOperator(t *testing.T) {
	wides := map[string]int{"a": 1, "d": 4, "u.w": 32, "g[2].h": 128, "b": 256}
	for a, wa := range wides {
		wideIs(t, node(api.OpNot, 1, net(a, 2)), wa)
		wideIs(t, node(api.OpNeg, 1, net(a, 2)), wa)
		for _, op := range []int{api.OpLog, api.OpAllR, api.OpAnyR, api.OpXorR} {
			wideIs(t, node(op, 1, net(a, 2)), 1)
		}
		for b, wb := range wides {
			for _, op := range []int{api.OpAdd, api.OpSub, api.OpAnd, api.OpOr, api.OpXor} {
				wideIs(t, node(op, 1, net(a, 2), net(b, 3)), max(wa, wb))
			}
			for _, op := range []int{api.OpShl, api.OpShr} {
				wideIs(t, node(op, 1, net(a, 2), net(b, 3)), wa)
			}
			for _, op := range []int{api.OpLt, api.OpLe, api.OpGt, api.OpGe, api.OpEq, api.OpNe, api.OpLand, api.OpLor} {
				wideIs(t, node(op, 1, net(a, 2), net(b, 3)), 1)
			}
			for c := range wides {
				wideIs(t, node(api.OpCond, 1, net(c, 2), net(a, 3), net(b, 4)), max(wa, wb))
			}
			if wa+wb <= 256 {
				wideIs(t, node(api.OpCat, 1, net(a, 2), net(b, 3)), wa+wb)
			} else {
				wideRefused(t, node(api.OpCat, 1, net(a, 2), net(b, 3)), 1, api.ErrSize)
			}
		}
	}
}

// noVectors is values that are none.
func noVectors() []string {
	return []string{"", "2", "X", "Z", " 1", "1 ", "-1", "0b1", "1_0", "é", "\x00", strings.Repeat("0", 257), strings.Repeat("1", 1<<16)}
}

func noOperators() []int {
	return []int{-1 << 63, -28, -2, -1, 0, api.OpLor + 1, api.OpLor + 2, 99, 256 + api.OpAdd, 1<<32 + api.OpNum, 1<<63 - 1}
}

// partsOf is how many parts an operator has (an OpCat: any number).
func partsOf(op int) int {
	switch {
	case op == api.OpNum || op == api.OpName:
		return 0
	case op == api.OpBit || op >= api.OpNot && op <= api.OpXorR:
		return 1
	case op == api.OpCond:
		return 3
	}
	return 2
}

func TestEl3ErrConst(t *testing.T) {
	for _, v := range noVectors() {
		wideRefused(t, bits(v, 5), 5, api.ErrConst)
		wideRefused(t, node(api.OpAdd, 1, net("a", 2), bits(v, 3)), 3, api.ErrConst)
		wideRefused(t, named(api.OpPart, "d", 1, bits(v, 2), bits("0", 3)), 2, api.ErrConst)
		wideRefused(t, named(api.OpPart, "k", 1, bits("1", 2), bits(v, 3)), 3, api.ErrConst)
	}
	for _, op := range noOperators() {
		for parts := range 5 {
			wideRefused(t, named(op, "d", 7, slices.Repeat([]api.Expr{net("a", 2)}, parts)...), 7, api.ErrConst)
		}
		wideRefused(t, node(op, 7, net("a", 2), net("k", 3)), 3, api.ErrWord)
	}
	for op := api.OpNum; op <= api.OpLor; op++ {
		for parts := range 6 {
			x := named(op, "d", 7, slices.Repeat([]api.Expr{bits("1", 2)}, parts)...)
			x.Value = "1"
			switch {
			case op == api.OpCat && parts > 0:
				wideIs(t, x, parts)
			case op == api.OpCat || parts != partsOf(op):
				wideRefused(t, x, 7, api.ErrConst)
				// Its parts, as many as there are, are ahead of it; its own name, and bounds, behind it.
				x.Name = "k"
				wideRefused(t, x, 7, api.ErrConst)
				if parts > 0 {
					x.Kids = append(slices.Clone(x.Kids[1:]), net("k", 9))
					wideRefused(t, x, 9, api.ErrWord)
				}
			default:
				if _, why := elab.Wide(x, netsOfTests()); why.Code != api.OK {
					t.Errorf("%d: %v", op, why)
				}
			}
		}
	}
}

func TestEl3ErrWord(t *testing.T) {
	for _, name := range []string{"k", "A", "w", "u", "u.", "u.w ", "g[1].h", "g", "\x00"} {
		wideRefused(t, net(name, 5), 5, api.ErrWord)
		wideRefused(t, named(api.OpBit, name, 5, net("a", 6)), 5, api.ErrWord)
		wideRefused(t, named(api.OpPart, name, 5, bits("1", 6), bits("0", 7)), 5, api.ErrWord)
		wideRefused(t, node(api.OpCat, 5, net("b", 6), net(name, 7), net("b", 8)), 7, api.ErrWord)
		wideRefused(t, named(api.OpBit, "a", 5, net(name, 6)), 6, api.ErrWord)
		wideRefused(t, named(api.OpBit, "k", 5, net(name, 6)), 6, api.ErrWord)
		wideRefused(t, named(api.OpPart, "k", 5, net("a", 6), net(name, 7)), 7, api.ErrWord)
	}
	for _, nets := range [][]api.Net{nil, {}, netsOfTests()[:1]} {
		wideTold(t, net("d", 5), nets, 0, api.Diag{At: 5, Code: api.ErrWord})
	}
	wideTold(t, bits("11", 5), nil, 2, api.Diag{})
}

func TestEl3ErrIndex(t *testing.T) {
	part := func(name, hi, lo string) api.Expr {
		return named(api.OpPart, name, 5, bits(hi, 6), bits(lo, 7))
	}
	for _, c := range []struct {
		name, hi, lo string
		wide         int
	}{
		{"d", "11", "0", 4}, {"d", "11", "11", 1}, {"d", "0", "0", 1}, {"d", "00000010", "1", 2}, {"a", "0", "0", 1}, {"b", "11111111", "0", 256}, {"b", "11111111", "11111111", 1}, {"d", strings.Repeat("0", 254) + "11", strings.Repeat("0", 256), 4},
		{"d", "100", "0", 0}, {"d", "100", "100", 0}, {"d", "1", "10", 0}, {"d", "0", "1", 0}, {"a", "1", "0", 0}, {"a", "1", "1", 0}, {"b", "100000000", "0", 0}, {"d", "x", "0", 0}, {"d", "1", "z", 0}, {"d", "1x", "0", 0}, {"d", "0z1", "0", 0}, {"d", strings.Repeat("1", 31), "0", 0}, {"d", strings.Repeat("1", 32), "0", 0}, {"d", strings.Repeat("1", 64), "0", 0}, {"d", strings.Repeat("1", 256), strings.Repeat("1", 256), 0}, {"d", "1" + strings.Repeat("0", 64), "0", 0}, {"d", "11", "1" + strings.Repeat("0", 64), 0},
	} {
		if c.wide > 0 {
			wideIs(t, part(c.name, c.hi, c.lo), c.wide)
		} else {
			wideRefused(t, part(c.name, c.hi, c.lo), 5, api.ErrIndex)
		}
	}
	// Bounds that are no numbers, though they may be parts.
	for _, x := range []api.Expr{net("a", 6), node(api.OpAdd, 6, bits("0", 8), bits("1", 9)), node(api.OpNeg, 6, bits("0", 8)), named(api.OpBit, "d", 6, bits("0", 8)), node(api.OpCat, 6, bits("0", 8)), part("d", "0", "0"), node(api.OpCond, 6, bits("1", 8), bits("1", 9), bits("0", 9))} {
		wideRefused(t, named(api.OpPart, "d", 5, x, bits("0", 7)), 5, api.ErrIndex)
		wideRefused(t, named(api.OpPart, "d", 5, bits("1", 7), x), 5, api.ErrIndex)
	}
	wideRefused(t, named(api.OpPart, "d", 5, part("d", "111", "0"), bits("0", 7)), 5, api.ErrIndex)
	wideRefused(t, named(api.OpPart, "k", 5, bits("111", 6), bits("x", 7)), 5, api.ErrWord)
	// A bit of a net may be any.
	wideIs(t, named(api.OpBit, "a", 5, bits("11111", 6)), 1)
}

func TestEl3ErrSize(t *testing.T) {
	long := slices.Repeat([]api.Expr{net("a", 2)}, 257)
	wideRefused(t, node(api.OpCat, 1, long...), 1, api.ErrSize)
	wideRefused(t, node(api.OpCat, 1, net("b", 2), bits("1", 3)), 1, api.ErrSize)
	wideRefused(t, node(api.OpCat, 1, node(api.OpCat, 4, net("b", 2), net("b", 3)), net("k", 5)), 4, api.ErrSize)
	wideRefused(t, node(api.OpCat, 1, net("b", 2), net("b", 3), net("k", 5)), 5, api.ErrWord)
	wideRefused(t, node(api.OpNot, 9, node(api.OpCat, 1, net("b", 2), net("a", 3))), 1, api.ErrSize)
	// Only of an OpCat: a net is as wide as it is told to be.
	wide := []api.Net{{Name: "a", Wide: 257}, {Name: "b", Wide: 1<<63 - 1}}
	wideTold(t, node(api.OpAdd, 1, net("a", 2), bits("1", 3)), wide, 257, api.Diag{})
	wideTold(t, node(api.OpCat, 1, net("a", 2)), wide, 0, api.Diag{At: 1, Code: api.ErrSize})
	for _, l := range [][]api.Expr{{net("b", 2)}, {net("b", 2), net("b", 3)}, {net("b", 2), bits("1", 3)}, {net("b", 2), net("b", 3), bits("111", 4)}, {net("b", 2), net("b", 2), net("b", 3)}} {
		wideTold(t, node(api.OpCat, 1, l...), wide, 0, api.Diag{At: 1, Code: api.ErrSize})
	}
}

// The chapter's words once more.
func wideExpected(x api.Expr, nets []api.Net) (int, api.Diag) {
	parts := make([]int, len(x.Kids))
	for i, k := range x.Kids {
		wide, why := wideExpected(k, nets)
		if why != (api.Diag{}) {
			return 0, why
		}
		parts[i] = wide
	}
	no := func(code api.Errno) (int, api.Diag) { return 0, api.Diag{At: x.At, Code: code} }
	if x.Op < api.OpNum || x.Op > api.OpLor || len(parts) != partsOf(x.Op) && (x.Op != api.OpCat || len(parts) == 0) || x.Op == api.OpNum && (x.Value == "" || len(x.Value) > 256 || strings.Trim(x.Value, "01xz") != "") {
		return no(api.ErrConst)
	}
	at := slices.IndexFunc(nets, func(n api.Net) bool { return n.Name == x.Name })
	if slices.Contains([]int{api.OpName, api.OpBit, api.OpPart}, x.Op) && at < 0 {
		return no(api.ErrWord)
	}
	switch strings.Fields("- number name bit part cat cond same one same one one one most most first first one one one one one one most most most one one")[x.Op] {
	case "number":
		return len(x.Value), api.Diag{}
	case "name":
		return nets[at].Wide, api.Diag{}
	case "part":
		for hi := range nets[at].Wide {
			for lo := range hi + 1 {
				if isNumber(x.Kids[0], hi) && isNumber(x.Kids[1], lo) {
					return hi - lo + 1, api.Diag{}
				}
			}
		}
		return no(api.ErrIndex)
	case "cat":
		sum := 0
		for _, wide := range parts {
			sum += wide
		}
		if sum > 256 {
			return no(api.ErrSize)
		}
		return sum, api.Diag{}
	case "cond":
		return max(parts[1], parts[2]), api.Diag{}
	case "same", "first":
		return parts[0], api.Diag{}
	case "most":
		return slices.Max(parts), api.Diag{}
	}
	return 1, api.Diag{}
}

// isNumber tells whether an expression is a number in digits of two.
func isNumber(x api.Expr, n int) bool {
	digits := strings.TrimLeft(x.Value, "0")
	for ; n > 0 && digits != ""; n /= 2 {
		if digits[len(digits)-1] != "01"[n%2] {
			return false
		}
		digits = digits[:len(digits)-1]
	}
	return x.Op == api.OpNum && n == 0 && digits == ""
}

// grown is an expression of so many levels at the most; of each hundred of its parts so many are wrong.
func (d *dice) grown(room, wrong int) api.Expr {
	x := api.Expr{At: d.roll(2000) - 500, Name: d.one("a", "d", "u.w", "b", "g[2].h", ""), Value: d.one("1", "0", "10", "x1", "0000")}
	errs := func() bool { return d.roll(100) < wrong }
	x.Op = api.OpNum + d.roll(api.OpLor)
	if room == 0 {
		x.Op = api.OpNum + d.roll(2)
	}
	if errs() {
		x.Op = noOperators()[d.roll(len(noOperators()))]
	}
	if errs() {
		x.Value, x.Name = noVectors()[d.roll(len(noVectors()))], "k"
	}
	parts := partsOf(x.Op)
	if x.Op == api.OpCat {
		parts = 1 + d.roll(4)
	}
	if errs() {
		parts = d.roll(5)
	}
	for i := range parts {
		x.Kids = append(x.Kids, d.grown(max(room-1, 0), wrong))
		if x.Op == api.OpPart && !errs() {
			x.Kids[i] = bits([]string{d.one("0", "00", "1", "11"), d.one("0", "0", "000", "1")}[i%2], i)
		}
	}
	return x
}

func TestEl3AnyExpression(t *testing.T) {
	d := dice(38)
	codes := map[api.Errno]int{}
	for i := range 60000 {
		x := d.grown(i%6, []int{0, 0, 1, 3, 10}[i%5])
		n, why := wideExpected(x, netsOfTests())
		wideTold(t, x, netsOfTests(), n, why)
		codes[why.Code]++
	}
	for _, code := range []api.Errno{api.OK, api.ErrConst, api.ErrWord, api.ErrIndex, api.ErrSize} {
		if codes[code] < 500 {
			t.Errorf("only %d with the code %d", codes[code], code)
		}
	}
}

// Expressions that are deep, that are small in memory and have very many parts, or that stand within themselves.
func TestR1WideEnds(t *testing.T) {
	const deep = 1 << 20
	chain := make([]api.Expr, deep)
	for i := range chain {
		chain[i] = node([]int{api.OpNot, api.OpNeg}[i%2], i)
		if i > 0 {
			chain[i].Kids = chain[i-1 : i]
		}
	}
	chain[0] = net("d", 0)
	wideIs(t, chain[deep-1], 4)
	chain[0] = net("k", 77)
	wideRefused(t, chain[deep-1], 77, api.ErrWord)
	twice := net("d", 0)
	for i := range 200 {
		twice = node([]int{api.OpAdd, api.OpXor, api.OpShl}[i%3], i, twice, twice)
	}
	wideIs(t, twice, 4)
	wideIs(t, node(api.OpCat, 1, twice, twice, net("a", 2)), 9)
	for op := api.OpBit; op <= api.OpLor; op++ {
		for parts := 1; parts <= 3; parts++ {
			kids := slices.Repeat([]api.Expr{net("a", 2)}, parts)
			kids[parts-1] = named(op, "d", 9, kids...)
			kids[parts-1].Kids = kids
			if n, why := elab.Wide(kids[parts-1], netsOfTests()); n != 0 || why != (api.Diag{At: 9, Code: api.ErrConst}) {
				t.Errorf("%d: %d %v", op, n, why)
			}
		}
	}
	wideTold(t, api.Expr{}, nil, 0, api.Diag{Code: api.ErrConst})
	nets := []api.Net{{Name: "a", Wide: -1 << 63}, {Name: "b", Wide: 0}, {Name: "c", Wide: 1<<63 - 1}}
	for op := api.OpNum; op <= api.OpLor; op++ {
		for _, l := range [][]api.Expr{{net("a", 1)}, {net("a", 1), net("a", 2)}, {net("c", 1), net("a", 2), net("c", 3)}, {bits("1", 1), bits("0", 1)}} {
			for _, name := range []string{"a", "b", "c"} {
				elab.Wide(named(op, name, 5, l...), nets)
			}
		}
	}
}
