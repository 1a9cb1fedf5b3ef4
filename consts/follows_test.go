package consts_test

import (
	"fmt"
	"silkworm/api"
	"silkworm/consts"
	"slices"
	"strings"
	"testing"
)

// Cn3: other names, how the numbers came to their names, and what was asked ahead, change nothing.
func TestCn3OnlyTheNamesThatStandInIt(t *testing.T) {
	d := dice(63)
	for i := range 20000 {
		x := d.grown(1+i%5, []int{0, 0, 0, 3}[i%4])
		n, why := scopeWith(t, given()).Eval(x)
		used := map[string]int{}
		free := map[string]int{}
		for name, number := range given() {
			if standsIn(x, name) {
				used[name] = number
			} else {
				free[name] = edges()[d.roll(len(edges()))]
			}
		}
		told(t, scopeWith(t, used), x, n, why)
		s := scopeWith(t, used)
		in := s.Within()
		for name, number := range free {
			in.Set(name, number)
		}
		in.Set("H", 5)
		told(t, in, x, n, why)
		told(t, in.Within(), x, n, why)
		for name, number := range used {
			in.Set(name, -1)
			in.Eval(x)
			in.Set(name, number)
			s.Set(name, 77)
		}
		told(t, in, x, n, why)
	}
}

func standsIn(x api.Expr, name string) bool {
	return x.Op == api.OpName && x.Name == name || slices.ContainsFunc(x.Kids, func(k api.Expr) bool { return standsIn(k, name) })
}

// Cn3: the names of a number and of an operator, the values of names, and whether a number is plain, are no part of what is told.
func TestCn3OtherFields(t *testing.T) {
	x := exprOf(t, "N + 4'b0101 << (Z ? K : I)")
	want := 16
	exprIs(t, x, want)
	x.Name, x.Value, x.Plain = "K", "x", true
	x.Kids[0].Name, x.Kids[0].Kids[0].Value, x.Kids[0].Kids[0].Plain = "K", "x", true
	x.Kids[0].Kids[1].Name, x.Kids[0].Kids[1].Plain = "K", true
	exprIs(t, x, want)
}

// R2 and R4: Eval changes no name, refused or not, and tells the same again.
func TestR4EvalChangesNothing(t *testing.T) {
	s := scopeWith(t, given())
	for range 3 {
		for source, why := range map[string]api.Diag{"N + M": {}, "K": {Code: api.ErrWord}, "~N": {Code: api.ErrConst}, "B + B": {At: 2, Code: api.ErrOver}, "N << 32": {At: 2, Code: api.ErrOver}, "(N + 1) + (N + K)": {At: 15, Code: api.ErrWord}} {
			want := 0
			if why.Code == api.OK {
				want = -1
			}
			told(t, s, exprOf(t, source), want, why)
			for name, n := range given() {
				getIs(t, s, name, n, true)
			}
			getIs(t, s, "K", 0, false)
		}
	}
	getIs(t, consts.New(), "N", 0, false)
}

// R3: what is handed in is not changed, and what lies behind a list's end is not read.
func TestR3HandedIn(t *testing.T) {
	d := dice(64)
	s := scopeWith(t, given())
	for i := range 5000 {
		x := d.grown(i%5, []int{0, 10}[i%2])
		n, why := s.Eval(x)
		y := roomBehind(x)
		before := fmt.Sprint(all(y))
		told(t, s, y, n, why)
		if fmt.Sprint(all(y)) != before {
			t.Fatalf("%v: changed", x)
		}
	}
	kids := []api.Expr{name("N", 1), name("M", 2), name("N", 3), name("N", 4)}
	for op := api.OpCond; op <= api.OpLor; op++ {
		if parts := partsOf(op); parts > 0 {
			exprRefused(t, api.Expr{Op: op, At: 5, Kids: kids[:parts-1]}, 5, api.ErrConst)
		}
	}
	exprIs(t, api.Expr{Op: api.OpAdd, Kids: kids[:2]}, -1)
	exprIs(t, api.Expr{Op: api.OpAdd, Kids: kids[1:3:3]}, -1)
}

// roomBehind is an expression whose lists have more parts, wrong ones, behind their ends.
func roomBehind(x api.Expr) api.Expr {
	var kids []api.Expr
	for _, k := range x.Kids {
		kids = append(kids, roomBehind(k))
	}
	x.Kids = append(kids, name("K", 90), bits("x", 91), node(99, 92))[:len(kids)]
	return x
}

// all is an expression with what lies behind the ends of its lists.
func all(x api.Expr) api.Expr {
	kids := slices.Clone(x.Kids[:cap(x.Kids)])
	for i := range kids {
		kids[i] = all(kids[i])
	}
	x.Kids = kids
	return x
}

// R3: nil and the empty list are the same, and what is handed in is not kept.
func TestR3NothingIsKept(t *testing.T) {
	exprIs(t, api.Expr{Op: api.OpName, Name: "N", Kids: []api.Expr{}}, 3)
	exprRefused(t, api.Expr{Op: api.OpAdd, At: 3, Kids: []api.Expr{}}, 3, api.ErrConst)
	exprRefused(t, api.Expr{Op: api.OpAdd, At: 3}, 3, api.ErrConst)
	s := scopeWith(t, given())
	kids := []api.Expr{name("N", 1), node(api.OpNeg, 2, name("M", 3))}
	x := api.Expr{Op: api.OpAdd, Kids: kids}
	told(t, s, x, 7, api.Diag{})
	kids[1].Kids[0].Name = "N"
	told(t, s, x, 0, api.Diag{})
	kids[1].Op = api.OpLog
	told(t, s, x, 3, api.Diag{})
	kids[0] = name("K", 8)
	told(t, s, x, 0, api.Diag{At: 8, Code: api.ErrWord})
}

// R1: expressions that are deep, on each way down.
func TestR1Deep(t *testing.T) {
	const deep = 1 << 16
	for _, c := range []struct {
		op, way, n int
	}{{api.OpNeg, 0, 1}, {api.OpLog, 0, 1}, {api.OpSub, 0, 1 - deep}, {api.OpSub, 1, 1}, {api.OpAdd, 1, deep + 1}, {api.OpLand, 0, 1}, {api.OpCond, 0, 1}, {api.OpCond, 1, 1}, {api.OpXor, 1, 1}} {
		grown := func(x api.Expr) api.Expr {
			for range deep {
				kids := slices.Repeat([]api.Expr{name("I", 2)}, partsOf(c.op))
				kids[c.way] = x
				x = node(c.op, 3, kids...)
			}
			return x
		}
		exprIs(t, grown(name("I", 1)), c.n)
		exprRefused(t, grown(name("K", 1)), 1, api.ErrWord)
	}
}

// R1: an expression may be deeper than calls within calls may be.
func TestR1Deepest(t *testing.T) {
	const deep = 1 << 22
	kids := make([]api.Expr, deep)
	kids[0] = name("N", 1)
	for i := 1; i < deep; i++ {
		kids[i] = api.Expr{Op: api.OpNeg, Kids: kids[i-1 : i]}
	}
	exprIs(t, kids[deep-1], -3)
}

// R1: expressions that are small in memory, and have more parts than can be counted.
func TestR1PartsThatDouble(t *testing.T) {
	for op := api.OpCond; op <= api.OpLor; op++ {
		if partsOf(op) < 0 {
			continue
		}
		x := name("I", 1)
		names := map[string]int{"I": 1}
		for level := range 100 {
			kids := slices.Repeat([]api.Expr{x}, partsOf(op))
			x = node(op, 10+level, kids...)
			// What the parts came to is a name's number in the level above.
			names["P"] = 1
			if level > 0 {
				names["P"], _ = scopeWith(t, names).Eval(kids[0])
			}
			n, why := expected(names, node(op, 10+level, slices.Repeat([]api.Expr{name("P", 2)}, partsOf(op))...))
			told(t, scopeWith(t, names), x, n, why)
			if why.Code != api.OK {
				break
			}
		}
	}
	x := name("K", 1)
	for range 100 {
		x = node(99, 3, x, x, x)
	}
	exprRefused(t, x, 1, api.ErrWord)
	x = name("N", 1)
	for range 100 {
		x = node(api.OpOr, 3, x, node(api.OpAnd, 4, x, x))
	}
	exprIs(t, x, 3)
}

// R1: expressions that have no end, since they stand within themselves, are no constants; a ? : that does not take that way is one.
func TestR1WithinThemselves(t *testing.T) {
	for op := api.OpCond; op <= api.OpLor; op++ {
		parts := partsOf(op)
		for way := range max(parts, 0) {
			kids := slices.Repeat([]api.Expr{name([]string{"Z", "I"}[way%2], 2)}, parts)
			if op == api.OpCond && way == 1 {
				kids[0] = name("I", 2)
			}
			kids[way] = api.Expr{Op: op, Kids: kids, At: 6}
			exprRefused(t, kids[way], 6, api.ErrConst)
			exprRefused(t, node(api.OpAdd, 1, name("N", 2), kids[way]), 6, api.ErrConst)
			exprRefused(t, node(api.OpAdd, 1, name("K", 2), kids[way]), 2, api.ErrWord)
			exprIs(t, node(api.OpCond, 1, name("N", 2), name("M", 3), kids[way]), -4)
		}
	}
	kids := []api.Expr{name("N", 1), name("M", 2), {}}
	kids[2] = api.Expr{Op: api.OpCond, Kids: kids, At: 3}
	exprIs(t, kids[2], -4)
	for _, op := range noOperators() {
		kids := []api.Expr{name("N", 1), {}}
		kids[1] = api.Expr{Op: op, Kids: kids, At: 3}
		exprRefused(t, kids[1], 3, api.ErrConst)
	}
	// Through others, and round a long way.
	ring := make([]api.Expr, 1000)
	for i := range ring {
		ring[i] = api.Expr{Op: api.OpNeg, At: 4, Kids: ring[(i+1)%len(ring) : (i+1)%len(ring)+1]}
	}
	exprRefused(t, ring[500], 4, api.ErrConst)
}

// R1: large values, names and lists.
func TestR1Large(t *testing.T) {
	long := strings.Repeat("1", 1<<24)
	exprRefused(t, bits(long, 1), 1, api.ErrConst)
	exprRefused(t, name(long, 1), 1, api.ErrWord)
	many := slices.Repeat([]api.Expr{name("N", 1)}, 1<<20)
	for op := api.OpBit; op <= api.OpLor+1; op++ {
		exprRefused(t, node(op, 2, many...), 2, api.ErrConst)
	}
	many[1<<19] = name("K", 5)
	exprRefused(t, node(api.OpAdd, 2, many...), 5, api.ErrWord)
	exprRefused(t, node(api.OpCat, 2, many...), 2, api.ErrConst)
	s := consts.New()
	s.Set(long, 8)
	told(t, s, name(long, 1), 8, api.Diag{})
}
