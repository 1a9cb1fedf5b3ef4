package sema_test

import (
	"reflect"
	"silkworm/api"
	"silkworm/sema"
	"slices"
	"strconv"
	"strings"
	"testing"
)

// ends calls Check of what no source is read as: it ends, and tells one reason, or none.
func ends(t *testing.T, l ...api.Module) {
	t.Helper()
	if why := sema.Check(l); len(why) > 1 || len(why) == 1 && why[0].Code == api.OK {
		t.Errorf("%v", why)
	}
}

// withItems is a module with items, behind some that make sense.
func withItems(l ...api.Item) api.Module {
	nets := []api.Item{{Kind: api.ItWire, Names: []string{"w", "v"}}, {Kind: api.ItReg, Names: []string{"q", "r"}}}
	return api.Module{Name: "m", Ports: []api.Port{{Name: "a"}, {Name: "y", Out: true}}, Items: append(nets, l...)}
}

func withStmts(kind int, l ...api.Stmt) api.Module {
	return withItems(api.Item{Kind: kind, Name: "a", Body: l})
}

func withExpr(x api.Expr) []api.Module {
	return []api.Module{
		withItems(api.Item{Kind: api.ItAssign, Name: "w", Value: x}), withStmts(api.ItComb, api.Stmt{Kind: api.StSet, Target: "q", Value: x}), withStmts(api.ItClock, api.Stmt{Kind: api.StIf, Value: x}), withStmts(api.ItComb, api.Stmt{Kind: api.StCase, Value: x, Arms: []api.Arm{{Label: x}, {Default: true, Label: x}}}),
		withItems(api.Item{Kind: api.ItInst, Module: "m", Name: "u", Ports: []api.Bind{{Name: "a", Value: x}}}), withItems(api.Item{Kind: api.ItInst, Module: "m", Name: "u", Ports: []api.Bind{{Name: "y", Value: x}}}),
	}
}

func name(s string) api.Expr {
	return api.Expr{Op: api.OpName, Name: s}
}

// leaves is all fields and lists within a value.
func leaves(v reflect.Value) (list []reflect.Value) {
	switch v.Kind() {
	case reflect.Slice:
		list = append(list, v)
		for i := range v.Len() {
			list = append(list, leaves(v.Index(i))...)
		}
	case reflect.Struct:
		for i := range v.NumField() {
			list = append(list, leaves(v.Field(i))...)
		}
	default:
		list = append(list, v)
	}
	return list
}

// spoil makes one thing within a tree another one.
func (d *dice) spoil(tree any) {
	all := leaves(reflect.ValueOf(tree).Elem())
	v := all[d.roll(len(all))]
	switch v.Kind() {
	case reflect.Int:
		v.SetInt(int64(d.roll(34) - 3))
	case reflect.Bool:
		v.SetBool(!v.Bool())
	case reflect.String:
		v.SetString(d.one("", "k", "m0", "a1", "b2", "\x00", "module"))
	case reflect.Slice:
		n := v.Len()
		switch kind := d.roll(3); {
		case kind == 0 && n > 0:
			v.Set(v.Slice(0, n-1))
		case kind == 1 && n > 0:
			v.Set(reflect.Append(v.Slice3(0, n, n), v.Index(d.roll(n))))
		default:
			v.Set(reflect.Append(v.Slice3(0, n, n), reflect.Zero(v.Type().Elem())))
		}
	}
}

func TestR1SpoiltTrees(t *testing.T) {
	d := dice(23)
	for i := range 1000 {
		m, _ := readable(makeSource(&d, []int{0, 10}[i%2]))
		for range 1 + d.roll(3) {
			d.spoil(&m)
			ends(t, m...)
		}
	}
}

func TestR1WrongKinds(t *testing.T) {
	ends(t, api.Module{})
	ends(t, api.Module{}, api.Module{Name: "m"}, api.Module{})
	ends(t, withItems(api.Item{}))
	for _, n := range []int{-1 << 63, -1, 0, 9, 99, 1<<63 - 1} {
		ends(t, withItems(api.Item{Kind: n, Name: "k", Module: "h", Names: []string{"w"}, Value: name("k"), At: n}))
		ends(t, withStmts(api.ItComb, api.Stmt{Kind: n, Target: "k", Value: name("k"), At: n}))
		for kind := range 10 {
			ends(t, withStmts(kind, api.Stmt{Kind: kind, Target: "q", Value: api.Expr{Op: n}}, api.Stmt{Kind: kind}))
		}
		for _, m := range withExpr(api.Expr{Op: n, Kids: []api.Expr{name("a"), {Op: n}, name("k")}}) {
			ends(t, m)
		}
	}
	for op := range 30 {
		for parts := range 5 {
			for _, m := range withExpr(api.Expr{Op: op, Name: "a", Kids: slices.Repeat([]api.Expr{name("a")}, parts)}) {
				ends(t, m)
			}
		}
	}
	ends(t, withItems(api.Item{Kind: api.ItFor}), withItems(api.Item{Kind: api.ItInst}), withItems(api.Item{Kind: api.ItLocal}), withItems(api.Item{Kind: api.ItAssign}), withItems(api.Item{Kind: api.ItClock}))
	ends(t, api.Module{Name: "m", Ports: []api.Port{{Name: "a", Reg: true}, {}}, Params: []api.Bind{{}}})
	// More than one default, and arms behind it.
	set := []api.Stmt{{Kind: api.StSet, Target: "q", Value: name("a")}}
	for _, l := range [][]api.Arm{{{Default: true}, {Default: true, Body: set}}, {{Default: true, Body: set}, {Label: name("a")}}, {{}}, {{Default: true, Label: name("k"), Body: set}}} {
		ends(t, withStmts(api.ItComb, api.Stmt{Kind: api.StCase, Value: name("a"), Arms: l}))
	}
}

// Trees that stand within themselves have no end.
func TestR1WithinThemselves(t *testing.T) {
	for op := api.OpNum; op <= api.OpLor; op++ {
		for _, parts := range []int{1, 2, 3} {
			kids := slices.Repeat([]api.Expr{name("a")}, parts)
			for i := range kids {
				kids[i] = api.Expr{Op: op, Name: "a", Kids: kids}
			}
			for _, m := range withExpr(kids[0]) {
				ends(t, m)
			}
		}
	}
	for _, kind := range []int{api.ItComb, api.ItClock} {
		for _, of := range []int{api.StSet, api.StDefer, api.StIf, api.StCase} {
			stmts := make([]api.Stmt, 2)
			for i := range stmts {
				stmts[i] = api.Stmt{Kind: of, Target: "q", Value: name("a"), Body: stmts, Else: stmts, Arms: []api.Arm{{Default: i == 1, Label: name("a"), Body: stmts}}}
			}
			ends(t, withStmts(kind, stmts...))
			ends(t, withStmts(kind, api.Stmt{Kind: api.StIf, Value: name("a"), Else: stmts[:1]}))
		}
	}
	items := make([]api.Item, 3)
	for i := range items {
		items[i] = api.Item{Kind: api.ItFor, Var: "i", Name: string(rune('f' + i)), Items: items}
	}
	items[1].Name = "d"
	ends(t, withItems(items...))
	ends(t, api.Module{Name: "m", Items: items[:1]})
}

// Trees that are small in memory, and have more parts than can be counted.
func TestR1PartsThatDouble(t *testing.T) {
	x := name("a")
	for range 80 {
		x = api.Expr{Op: api.OpAdd, Kids: []api.Expr{x, x}}
	}
	for _, m := range withExpr(x) {
		ends(t, m)
	}
	set := []api.Stmt{{Kind: api.StSet, Target: "q", Value: name("a")}}
	for _, l := range [][]api.Stmt{set, nil} {
		both, arms := l, l
		for range 80 {
			both = []api.Stmt{{Kind: api.StIf, Value: name("a"), Body: both, Else: both}}
			arms = []api.Stmt{{Kind: api.StCase, Value: name("a"), Arms: []api.Arm{{Label: name("a"), Body: arms}, {Default: true, Body: arms}}}}
		}
		ends(t, withStmts(api.ItComb, both...))
		ends(t, withStmts(api.ItComb, arms...))
		ends(t, withStmts(api.ItClock, both...))
	}
	items := []api.Item{{Kind: api.ItWire, Names: []string{"c"}}}
	for range 80 {
		items = []api.Item{{Kind: api.ItFor, Var: "i", Name: "f", Items: items}, {Kind: api.ItFor, Var: "i", Name: "g", Items: items}}
	}
	ends(t, withItems(items...))
	// Long lists that stand in many places.
	long := strings.Split(strings.Repeat("abcdefgh", 1<<13), "")
	for i := range long {
		long[i] += strings.Repeat("x", i%5) + string(rune(i))
	}
	net := []api.Item{{Kind: api.ItWire, Names: long}}
	arms := slices.Repeat([]api.Arm{{Default: true}}, 1<<18)
	ports := slices.Repeat([]api.Port{{Name: "a"}}, 1<<18)
	var fors, insts []api.Item
	var stmts []api.Stmt
	var modules []api.Module
	for i := range 1 << 12 {
		fors = append(fors, api.Item{Kind: api.ItFor, Var: "i", Name: string(rune(i + 1000)), Items: net})
		insts = append(insts, api.Item{Kind: api.ItInst, Module: "m", Name: string(rune(i + 1000)), Ports: []api.Bind{{Name: "a", Value: name("a")}}})
		stmts = append(stmts, api.Stmt{Kind: api.StCase, Value: name("a"), Arms: arms})
		modules = append(modules, api.Module{Name: string(rune(i + 1000)), Ports: ports})
	}
	ends(t, withItems(fors...))
	ends(t, withItems(insts...))
	ends(t, withStmts(api.ItComb, stmts...))
	ends(t, modules...)
}

// Trees that are deep.
func TestR1Deep(t *testing.T) {
	const deep = 1 << 20
	kids := make([]api.Expr, deep)
	kids[0] = name("a")
	for i := 1; i < deep; i++ {
		kids[i] = api.Expr{Op: api.OpNeg, Kids: kids[i-1 : i]}
	}
	for _, m := range withExpr(kids[deep-1]) {
		ends(t, m)
	}
	stmts := make([]api.Stmt, deep)
	stmts[0] = api.Stmt{Kind: api.StSet, Target: "q", Value: name("a")}
	for i := 1; i < deep; i++ {
		stmts[i] = api.Stmt{Kind: api.StIf, Value: name("a"), Body: stmts[i-1 : i], Else: stmts[:1]}
	}
	ends(t, withStmts(api.ItComb, stmts[deep-1]))
	ends(t, withStmts(api.ItComb, stmts[5000]))
	items := make([]api.Item, 1<<16)
	for i := 1; i < len(items); i++ {
		items[i] = api.Item{Kind: api.ItFor, Var: "i", Name: "f", Items: items[i-1 : i]}
	}
	ends(t, withItems(items[len(items)-1]))
	ends(t, withItems(items[5000]))
}

// filled is a text whose middle stands there as often as the tokens and bytes that there may be let, each with a number of its own in the place of %.
func filled(before, middle, after string) string {
	count := func(s string) int { return strings.Count(s, " ") }
	var out strings.Builder
	out.WriteString(before)
	for i := range (api.MaxTokens - count(before) - count(after)) / count(middle) {
		if next := strings.ReplaceAll(middle, "%", strconv.FormatInt(int64(i), 36)); out.Len()+len(next)+len(after) <= api.MaxSource {
			out.WriteString(next)
		}
	}
	out.WriteString(after)
	return out.String()
}

// Sources of as many tokens as there may be are looked at to their ends.
func TestSm1Largest(t *testing.T) {
	comb := "module m ( input a , output reg q ) ; always @ ( * ) "
	for _, c := range []struct {
		before, middle, good, bad string
		code                      api.Errno
	}{
		{comb + "q = ", "a + ", "a ; endmodule ", "$q ; endmodule ", api.ErrLatch},
		{comb + "q = ", "~ a | ", "a ; endmodule ", "$k ; endmodule ", api.ErrWord},
		{comb + "q = { ", "a , ", "a } ; endmodule ", "$q } ; endmodule ", api.ErrLatch},
		{comb + "begin ", "q = a ; ", "q = q ; end endmodule ", "$q <= q ; end endmodule ", api.ErrBlock},
		{comb + "begin q = a ; ", "if ( q ) q = q ; ", "end endmodule ", "$k = 1 ; end endmodule ", api.ErrWord},
		{comb + "begin q = a ; ", "if ( q ) begin end ", "end endmodule ", "$a = 1 ; end endmodule ", api.ErrTarget},
		{comb + "begin q = a ; case ( a ) ", "1 : begin end ", "endcase end endmodule ", "q : $q <= 1 ; endcase end endmodule ", api.ErrBlock},
		{"module m ( ) ; wire x ", ", c% ", "; endmodule ", "; $wire x ; endmodule ", api.ErrTwice},
		{"module m ( input x ", ", input c% ", ") ; endmodule ", ", $input x ) ; endmodule ", api.ErrTwice},
		{"module m # ( parameter x = 1 ", ", parameter c% = 1 ", ") ( ) ; endmodule ", ", parameter $x = 1 ) ( ) ; endmodule ", api.ErrTwice},
		{"module m ( ) ; ", "m c% ( ) ; ", "endmodule ", "$k c ( ) ; endmodule ", api.ErrModule},
		{"module m ( output y ) ; assign y = 1 ; ", "wire c% ; assign c% = y ; ", "endmodule ", "$assign y = 1 ; endmodule ", api.ErrDrive},
		{"module m ( input a ) ; ", "for ( i = 0 ; i ; i = 1 ) begin : c% end ", "endmodule ", "for ( i = 0 ; i ; i = 1 ) begin : c $assign a = 1 ; end endmodule ", api.ErrTarget},
		{"", "module c% ( ) ; endmodule ", "module m ( ) ; c0 u ( ) ; endmodule ", "module m ( ) ; c0 u ( $.a ( 1 ) ) ; endmodule ", api.ErrPort},
	} {
		sourceIs(t, filled(c.before, c.middle, c.good), api.OK)
		sourceIs(t, filled(c.before, c.middle, c.bad), c.code)
	}
}
