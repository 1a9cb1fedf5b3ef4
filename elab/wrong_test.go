package elab_test

import (
	"reflect"
	"silkworm/api"
	"silkworm/elab"
	"slices"
	"strings"
	"testing"
)

// ends calls Build of what no source is read as: it ends, with a design, or with one reason and nothing beside it.
func ends(t *testing.T, l ...api.Module) {
	t.Helper()
	endsWithTop(t, "m", l)
}

func endsWithTop(t *testing.T, top string, l []api.Module) {
	t.Helper()
	f, why := elab.Build(l, top)
	if len(why) > 1 || len(why) == 1 && (why[0].Code == api.OK || !reflect.DeepEqual(f, api.Flat{})) {
		t.Errorf("%v", why)
	}
}

// withItems is a module with items, behind some that make sense.
func withItems(l ...api.Item) api.Module {
	nets := []api.Item{{Kind: api.ItWire, Names: []string{"w", "v"}}, {Kind: api.ItReg, Names: []string{"q", "r"}}, {Kind: api.ItLocal, Name: "L", Value: bits("1", 0)}}
	return api.Module{Name: "m", Ports: []api.Port{{Name: "a"}, {Name: "y", Out: true}}, Items: append(nets, l...)}
}

// withExpr is modules with an expression at each of its places, the constant ones too.
func withExpr(x api.Expr) (list []api.Module) {
	one := bits("1", 0)
	stmt := func(kind int, s api.Stmt) api.Item { return api.Item{Kind: kind, Name: "a", Body: []api.Stmt{s}} }
	turns := func(begin, while, next api.Expr, items ...api.Item) api.Item {
		return api.Item{Kind: api.ItFor, Name: "f", Var: "i", Value: begin, While: while, Next: next, Items: items}
	}
	for _, item := range []api.Item{
		{Kind: api.ItAssign, Name: "w", Value: x}, {Kind: api.ItAssign, Name: "w", Value: one, Timed: true, Delay: x}, {Kind: api.ItAssign, Name: "w", Value: named(api.OpPart, "a", 3, x, one)}, {Kind: api.ItAssign, Name: "w", Value: named(api.OpPart, "a", 3, one, x)},
		stmt(api.ItComb, api.Stmt{Kind: api.StSet, Target: "q", Value: x}), stmt(api.ItClock, api.Stmt{Kind: api.StIf, Value: x}), stmt(api.ItComb, api.Stmt{Kind: api.StCase, Value: x, Arms: []api.Arm{{Label: x}, {Default: true, Label: x}}}), stmt(api.ItClock, api.Stmt{Kind: api.StDefer, Target: "q", Value: named(api.OpPart, "a", 3, x, x)}),
		{Kind: api.ItLocal, Name: "M", Value: x}, {Kind: api.ItWire, Names: []string{"c"}, Ranged: true, Hi: x, Lo: one}, {Kind: api.ItReg, Names: []string{"c"}, Ranged: true, Hi: one, Lo: x},
		turns(x, x, x), turns(one, one, x), turns(one, x, one), turns(one, net("i", 0), node(api.OpSub, 0, net("i", 0), one), api.Item{Kind: api.ItLocal, Name: "M", Value: x}),
		{Kind: api.ItInst, Module: "n", Name: "u", Ports: []api.Bind{{Name: "i", Value: x}}}, {Kind: api.ItInst, Module: "n", Name: "u", Ports: []api.Bind{{Name: "o", Value: x}}}, {Kind: api.ItInst, Module: "n", Name: "u", Params: []api.Bind{{Name: "N", Value: x}}},
	} {
		list = append(list, withItems(item))
	}
	return append(list, api.Module{Name: "m", Params: []api.Bind{{Name: "P", Value: x}}}, api.Module{Name: "m", Ports: []api.Port{{Name: "a", Ranged: true, Hi: x, Lo: one}}}, api.Module{Name: "m", Ports: []api.Port{{Name: "a", Ranged: true, Hi: one, Lo: x}}})
}

// endsWith ends with an expression at each place.
func endsWith(t *testing.T, x api.Expr) {
	t.Helper()
	n := api.Module{Name: "n", Params: []api.Bind{{Name: "N", Value: bits("1", 0)}}, Ports: []api.Port{{Name: "i"}, {Name: "o", Out: true}}}
	for _, m := range withExpr(x) {
		ends(t, m, n)
	}
}

// leaves is all fields and lists within a value.
func leaves(v reflect.Value) (list []reflect.Value) {
	switch v.Kind() {
	case reflect.Slice:
		list = append(list, v)
		for i := range v.Len() {
			list = append(list, leaves(v.Index(i))...)
		}
	case reflect.Struct:
		for i := range v.NumField() {
			list = append(list, leaves(v.Field(i))...)
		}
	default:
		list = append(list, v)
	}
	return list
}

// spoil makes one thing within a tree another one.
func (d *dice) spoil(tree any) {
	all := leaves(reflect.ValueOf(tree).Elem())
	v := all[d.roll(len(all))]
	switch v.Kind() {
	case reflect.Int:
		v.SetInt(int64(d.roll(34) - 3))
	case reflect.Bool:
		v.SetBool(!v.Bool())
	case reflect.String:
		v.SetString(d.one("", "k", "m0", "a1", "b2", "\x00", "module", "1", "x0"))
	case reflect.Slice:
		n := v.Len()
		switch kind := d.roll(3); {
		case kind == 0 && n > 0:
			v.Set(v.Slice(0, n-1))
		case kind == 1 && n > 0:
			v.Set(reflect.Append(v.Slice3(0, n, n), v.Index(d.roll(n))))
		default:
			v.Set(reflect.Append(v.Slice3(0, n, n), reflect.Zero(v.Type().Elem())))
		}
	}
}

func TestR1SpoiltTrees(t *testing.T) {
	d := dice(60)
	for i := range 700 {
		m, _ := readable(makeSource(&d, []int{0, 5}[i%2], false))
		for range 1 + d.roll(4) {
			d.spoil(&m)
			endsWithTop(t, d.one("m0", "m0", "m1", ""), m)
		}
	}
}

func TestR1WrongKinds(t *testing.T) {
	for _, top := range []string{"m", ""} {
		for _, l := range [][]api.Module{nil, {{}}, {{}, {Name: "m"}}, {{Name: "m"}, {}, {}}} {
			endsWithTop(t, top, l)
		}
	}
	for _, n := range []int{-1 << 63, -1, 0, 9, 99, 1<<63 - 1} {
		ends(t, withItems(api.Item{Kind: n, Name: "k", Module: "h", Names: []string{"w"}, Value: net("k", 1), At: n}))
		for kind := range 10 {
			ends(t, withItems(api.Item{Kind: kind, Name: "a", Body: []api.Stmt{{Kind: n, Target: "k", Value: net("k", 1), At: n}, {Kind: kind, Target: "q", Value: api.Expr{Op: n}}, {Kind: kind}}}))
		}
		endsWith(t, api.Expr{Op: n, Name: "a", Value: "2", Kids: []api.Expr{net("a", 1), {Op: n}, net("L", 2)}})
	}
	for kind := range 10 {
		ends(t, withItems(api.Item{Kind: kind}))
		ends(t, withItems(api.Item{Kind: kind, Name: "a", Timed: true, Ranged: true, Module: "m", Names: []string{"", ""}, Items: []api.Item{{Kind: kind}}}))
	}
	ends(t, api.Module{Name: "m", Ports: []api.Port{{Name: "a", Reg: true}, {}}, Params: []api.Bind{{}}})
	ends(t, api.Module{Name: "m", Params: []api.Bind{{}}})
	ends(t, api.Module{Name: "m", Ports: []api.Port{{Ranged: true}}})
	set := []api.Stmt{{Kind: api.StSet, Target: "q", Value: net("a", 1)}}
	for _, l := range [][]api.Arm{{{Default: true}, {Default: true, Body: set}}, {{Default: true, Body: set}, {Label: net("a", 1)}}, {{}}, {{Default: true, Label: net("k", 1), Body: set}}} {
		ends(t, withItems(api.Item{Kind: api.ItComb, Body: []api.Stmt{{Kind: api.StCase, Value: net("a", 1), Arms: l}}}))
	}
	// A net whose name is that of another one, in its place.
	ends(t, api.Module{Name: "m", Items: []api.Item{{Kind: api.ItWire, Names: []string{"u.a", "g[0].a"}}, {Kind: api.ItInst, Module: "n", Name: "u"}, {Kind: api.ItAssign, Name: "u.a", Value: net("u.a", 1)}}}, api.Module{Name: "n", Ports: []api.Port{{Name: "a"}}})
}

// Operators with a wrong number of parts, and numbers that are no vectors: ErrConst at them, as Wide tells it.
func TestEl1WrongExpressions(t *testing.T) {
	value := func(x api.Expr) api.Module { return withItems(api.Item{Kind: api.ItAssign, Name: "w", Value: x}) }
	for op := range 30 {
		for parts := range 5 {
			x := named(op, "a", 5, slices.Repeat([]api.Expr{net("a", 6)}, parts)...)
			endsWith(t, x)
			if _, want := elab.Wide(x, []api.Net{{Name: "a", Wide: 1}}); want.Code == api.ErrConst && op != api.OpName {
				if _, why := elab.Build([]api.Module{value(x)}, "m"); len(why) != 1 || why[0] != want {
					t.Errorf("%d with %d parts: %v, not %v", op, parts, why, want)
				}
			}
		}
	}
	for _, v := range noVectors() {
		endsWith(t, bits(v, 5))
		if _, why := elab.Build([]api.Module{value(bits(v, 5))}, "m"); !reflect.DeepEqual(why, []api.Diag{{At: 5, Code: api.ErrConst}}) {
			t.Errorf("%.40q: %v", v, why)
		}
	}
}

// Trees that stand within themselves have no end.
func TestR1WithinThemselves(t *testing.T) {
	for op := api.OpNum; op <= api.OpLor; op++ {
		for parts := 1; parts <= 3; parts++ {
			kids := slices.Repeat([]api.Expr{net("a", 1)}, parts)
			for i := range kids {
				kids[i] = api.Expr{Op: op, Name: "a", Kids: kids}
			}
			endsWith(t, kids[0])
		}
	}
	for _, kind := range []int{api.ItComb, api.ItClock} {
		for _, of := range []int{api.StSet, api.StDefer, api.StIf, api.StCase} {
			stmts := make([]api.Stmt, 2)
			arms := []api.Arm{{Default: true, Body: stmts}}
			for i := range stmts {
				stmts[i] = api.Stmt{Kind: of, Target: "q", Value: net("a", 1), Body: stmts, Else: stmts, Arms: arms}
			}
			ends(t, withItems(api.Item{Kind: kind, Name: "a", Body: stmts}))
		}
	}
	for kind := range 10 {
		items := make([]api.Item, 1)
		items[0] = api.Item{Kind: kind, Name: "f", Var: "i", Value: bits("0", 1), While: bits("1", 1), Next: bits("1", 1), Items: items}
		ends(t, withItems(items...))
	}
}

// doubled is an expression that is small in memory and has very many parts.
func doubled(op int, levels int) api.Expr {
	x := net("L", 1)
	for range levels {
		x = node(op, 2, x, x)
	}
	return x
}

func TestR1VeryManyParts(t *testing.T) {
	for _, op := range []int{api.OpAnd, api.OpCat, api.OpLt, api.OpAdd} {
		for _, levels := range []int{10, 16, 40} {
			endsWith(t, doubled(op, levels))
		}
	}
	long := slices.Repeat([]api.Expr{net("L", 1)}, 1<<20)
	endsWith(t, node(api.OpCat, 1, long...))
	stmts := []api.Stmt{{Kind: api.StSet, Target: "q", Value: net("a", 1)}}
	items := []api.Item{{Kind: api.ItLocal, Name: "M", Value: doubled(api.OpAnd, 12)}}
	for i := range 40 {
		stmts = []api.Stmt{{Kind: api.StIf, Value: net("a", 1), Body: stmts, Else: stmts}}
		items = []api.Item{{Kind: api.ItFor, Name: "f", Var: "i", Value: bits("0", 1), While: node(api.OpLt, 1, net("i", 1), bits("11", 1)), Next: node(api.OpAdd, 1, net("i", 1), bits("1", 1)), Items: items}}
		if i%8 == 0 {
			ends(t, withItems(items...))
			ends(t, withItems(api.Item{Kind: api.ItComb, Body: stmts}))
		}
	}
	names := strings.Fields(times(1<<16, "n% "))
	ends(t, withItems(api.Item{Kind: api.ItWire, Names: names}))
	// A constant place of great size, in each turn of a for.
	const deep = 1 << 20
	chain := make([]api.Expr, deep)
	chain[0] = bits("1", 1)
	for i := 1; i < deep; i++ {
		chain[i] = api.Expr{Op: api.OpNeg, Kids: chain[i-1 : i]}
	}
	endsWith(t, chain[deep-1])
	large := api.Item{Kind: api.ItLocal, Name: "M", Value: chain[deep-1]}
	for range 2 {
		large = api.Item{Kind: api.ItFor, Name: "f", Var: "i", Value: bits("0", 1), While: node(api.OpLt, 1, net("i", 1), bits("111111", 1)), Next: node(api.OpAdd, 1, net("i", 1), bits("1", 1)), Items: []api.Item{large, large}[:1]}
	}
	ends(t, withItems(large))
}

// Trees that are deep.
func TestR1Deep(t *testing.T) {
	const deep = 1 << 18
	stmts := make([]api.Stmt, deep)
	stmts[0] = api.Stmt{Kind: api.StSet, Target: "q", Value: net("a", 1)}
	items := make([]api.Item, deep)
	for i := 1; i < deep; i++ {
		stmts[i] = api.Stmt{Kind: api.StIf, Value: net("a", 1), Body: stmts[i-1 : i], Else: stmts[:1]}
		items[i] = api.Item{Kind: api.ItFor, Var: "i", Name: "f", Value: bits("1", 1), While: net("i", 1), Next: bits("0", 1), Items: items[i-1 : i]}
	}
	for _, n := range []int{deep - 1, 3000, 300} {
		ends(t, withItems(api.Item{Kind: api.ItComb, Body: stmts[n : n+1]}))
		ends(t, withItems(items[n]))
	}
	kids := make([]api.Expr, deep)
	kids[0] = net("a", 1)
	for i := 1; i < deep; i++ {
		kids[i] = api.Expr{Op: []int{api.OpNeg, api.OpNot, api.OpAllR}[i%3], Kids: kids[i-1 : i]}
	}
	endsWith(t, kids[deep-1])
	endsWith(t, kids[12000])
}

// largest is a text whose middle stands there as often as the tokens and bytes that there may be let.
func largest(before, middle, after string) string {
	count := func(s string) int { return strings.Count(s, " ") }
	n := min((api.MaxTokens-count(before)-count(after))/count(middle), (api.MaxSource-len(before)-len(after))/(len(middle)+4))
	return before + times(n, middle) + after
}

// Sources of as many tokens as there may be are built to their ends.
func TestEl1Largest(t *testing.T) {
	turns := "for ( i = 0 ; i < 64 ; i = i + 1 ) begin : g "
	for _, c := range []struct {
		before, middle, good, bad string
		code                      api.Errno
	}{
		{"module m ( input a , output y ) ; assign y = ", "a + ", "a ; endmodule ", "$a [ 1 : 0 ] ; endmodule ", api.ErrIndex},
		{"module m ( input a ) ; " + turns + "wire x , y , z , v ; assign x = ", "a + ", "i ; assign y = x ; assign z = x ; assign v = y ; end endmodule ", "i ; assign y = x ; assign z = x ; assign v = $a [ i - 62 : 0 ] ; end endmodule ", api.ErrIndex},
		{"module m ( input a ) ; " + turns + "reg q ; always @ ( * ) begin ", "q = a + i ; ", "end end endmodule ", "q = $i [ 0 ] ; end end endmodule ", api.ErrConst},
		{"module m ( ) ; ", "localparam c% = 1 ; ", "endmodule ", "localparam d = $k ; endmodule ", api.ErrWord},
		{"module m ( ) ; " + turns, "localparam c% = i ; ", "end endmodule ", "localparam d = i $+ ( i == 63 ? 2147483647 : 0 ) ; end endmodule ", api.ErrOver},
		{"module m ( ) ; ", "for ( i = 0 ; i ; i = 1 ) begin : c% end ", "endmodule ", "$for ( i = 0 ; 1 ; i = i ) begin : d end endmodule ", api.ErrSize},
		{"", "module c% ( ) ; endmodule ", "module m ( ) ; c0 u ( ) ; endmodule ", "module m ( ) ; $c0 u ( ) ; m v ( ) ; endmodule ", api.ErrModule},
		{"module m ( ) ; " + turns + "localparam L = ", "1 - ", "1 ; end endmodule ", "( i == 63 ? $k : 1 ) ; end endmodule ", api.ErrWord},
		{"module m # ( parameter P = 1 ", ", parameter c% = 1 ", ") ( ) ; endmodule ", ", parameter d = $e ) ( ) ; endmodule ", api.ErrWord},
	} {
		accepted(t, largest(c.before, c.middle, c.good))
		refusedAt(t, c.code, largest(c.before, c.middle, c.bad))
	}
}
