package lower_test

import (
	"fmt"
	"reflect"
	"silkworm/api"
	"silkworm/lower"
	"slices"
	"strings"
	"testing"
)

// ends calls Run of what layer 8 does not build: it ends, with a netlist that may be, or with an error and nothing beside it.
func ends(t *testing.T, f api.Flat) {
	t.Helper()
	switch l, e := lower.Run(f); e {
	case api.OK:
		if lower.Check(l) != api.OK || l.Ports != f.Ports || len(l.Nodes) < len(f.Nets) {
			t.Errorf("a netlist that may not be, or is not that of the design: %v", l)
		}
	case api.ErrArg, api.ErrSize:
		if !reflect.DeepEqual(l, api.Netlist{}) {
			t.Errorf("%d, and a netlist beside it", e)
		}
	default:
		t.Errorf("error %d", e)
	}
}

func net(name string) api.Expr {
	return api.Expr{Op: api.OpName, Name: name}
}

// withProcs is a design of some nets with some processes.
func withProcs(l ...api.Proc) api.Flat {
	nets := []api.Net{{Name: "a", Wide: 1, Kind: api.NetIn}, {Name: "b", Wide: 3, Kind: api.NetIn}, {Name: "y", Wide: 2, Kind: api.NetWire}, {Name: "q", Wide: 2, Kind: api.NetComb}, {Name: "r", Wide: 2, Kind: api.NetReg}, {Name: "d", Wide: 2, Kind: api.NetDelay}, {Name: "o", Wide: 2, Kind: api.NetOpen}}
	return api.Flat{Nets: nets, Ports: 5, Procs: l}
}

// endsWith ends with an expression at each place.
func endsWith(t *testing.T, x api.Expr) {
	t.Helper()
	for _, s := range []api.Stmt{
		{Kind: api.StSet, Target: "q", Value: x}, {Kind: api.StDefer, Target: "r", Value: x}, {Kind: api.StIf, Value: x}, {Kind: api.StIf, Value: x, Body: []api.Stmt{{Kind: api.StSet, Target: "q", Value: x}}},
		{Kind: api.StCase, Value: x}, {Kind: api.StCase, Value: x, Arms: []api.Arm{{Label: x}, {Default: true, Label: x}}}, {Kind: api.StCase, Value: net("a"), Arms: []api.Arm{{Label: x}, {Label: net("b"), Body: []api.Stmt{{Kind: api.StSet, Target: "q", Value: x}}}}},
	} {
		ends(t, withProcs(api.Proc{Kind: api.ItComb, Clock: -1, Body: []api.Stmt{s}}))
		ends(t, withProcs(api.Proc{Kind: api.ItClock, Body: []api.Stmt{s, s}}))
	}
	ends(t, withProcs(api.Proc{Kind: api.ItAssign, Target: 2, Value: x}))
	ends(t, withProcs(api.Proc{Kind: api.ItAssign, Target: 5, Delay: 1, Value: x}))
}

func TestR1WrongDesigns(t *testing.T) {
	for _, n := range []int{-1 << 63, -1, 0, 1, 2, 5, 7, 8, 99, api.MaxDelay + 1, 1<<63 - 1} {
		for _, p := range []api.Proc{
			{Kind: n}, {Kind: n, Target: 2, Value: net("a")}, {Kind: api.ItAssign, Target: n, Value: net("a")}, {Kind: api.ItAssign, Target: 5, Delay: n, Value: net("a")}, {Kind: api.ItAssign, Target: 2, Delay: n, Value: net("a")},
			{Kind: api.ItClock, Clock: n, Body: []api.Stmt{{Kind: api.StDefer, Target: "r", Value: net("a")}}}, {Kind: api.ItComb, Clock: n, Body: []api.Stmt{{Kind: n, Target: "r", Value: net("a")}}}, {Kind: api.ItComb, Body: []api.Stmt{{Kind: api.StSet, Target: "k"}}},
		} {
			ends(t, withProcs(p))
		}
		for i := range 7 {
			f := withProcs(api.Proc{Kind: api.ItAssign, Target: i, Value: net("b")}, api.Proc{Kind: api.ItComb, Body: []api.Stmt{{Kind: api.StSet, Target: "q", Value: net("y")}}})
			ends(t, f)
			f.Ports = n
			ends(t, f)
			f = withProcs()
			f.Nets[i].Wide = n
			ends(t, f)
			f.Nets[i] = api.Net{Name: "a", Wide: 2, Kind: n}
			ends(t, f)
		}
	}
	names := api.Flat{Nets: slices.Repeat([]api.Net{{Kind: api.NetOpen, Wide: 1}}, 1<<20)}
	for _, n := range []int{512, 4096, 4097, 1 << 20} {
		ends(t, api.Flat{Nets: names.Nets[:n], Ports: n})
	}
	if _, e := lower.Run(api.Flat{Nets: names.Nets[:api.MaxNodes+1]}); e != api.ErrSize {
		t.Error("more nodes than there may be", e)
	}
	ends(t, withProcs(slices.Repeat([]api.Proc{{Kind: api.ItComb}}, 1<<20)...))
	// A net that nothing drives, or that is said to be driven otherwise.
	ends(t, api.Flat{Nets: []api.Net{{Name: "w", Wide: 1, Kind: api.NetWire}}})
	for kind := range 8 {
		for other := range 8 {
			f := withProcs(api.Proc{Kind: other, Target: 2, Value: net("y"), Delay: kind % 2, Body: []api.Stmt{{Kind: api.StSet, Target: "y", Value: net("y")}}})
			f.Nets[2].Kind = kind
			ends(t, f)
		}
	}
}

func TestR1WrongExpressions(t *testing.T) {
	for op := -1; op < 30; op++ {
		for parts := range 5 {
			for _, name := range []string{"a", "b", "k", ""} {
				endsWith(t, api.Expr{Op: op, Name: name, Value: "1", Kids: slices.Repeat([]api.Expr{net("b")}, parts)})
				endsWith(t, api.Expr{Op: op, Name: name, Kids: slices.Repeat([]api.Expr{{Op: api.OpNum, Value: "10"}}, parts)})
				endsWith(t, api.Expr{Op: op, Name: name, Kids: slices.Repeat([]api.Expr{{}}, parts)})
			}
		}
	}
	for _, v := range []string{"", "2", "0 ", "X", "é", strings.Repeat("1", 256), strings.Repeat("1", 257), strings.Repeat("1", 1<<16)} {
		endsWith(t, api.Expr{Op: api.OpNum, Value: v})
		endsWith(t, api.Expr{Op: api.OpPart, Name: "b", Kids: []api.Expr{{Op: api.OpNum, Value: v}, {Op: api.OpNum, Value: "0"}}})
		endsWith(t, api.Expr{Op: api.OpCat, Kids: []api.Expr{{Op: api.OpNum, Value: v}, net("b")}})
	}
}

// Trees that stand within themselves have no end.
func TestR1WithinThemselves(t *testing.T) {
	for op := api.OpNum; op <= api.OpLor; op++ {
		for parts := 1; parts <= 3; parts++ {
			kids := make([]api.Expr, parts)
			for i := range kids {
				kids[i] = api.Expr{Op: op, Name: "b", Kids: kids}
			}
			endsWith(t, kids[0])
		}
	}
	for of := range 6 {
		for where := range 8 {
			stmts := make([]api.Stmt, 2)
			inner := func(bit int) []api.Stmt { return stmts[:2*(where>>bit&1)] }
			arms := []api.Arm{{Label: net("a"), Body: inner(2)}, {Default: true, Body: inner(2)}}
			for i := range stmts {
				stmts[i] = api.Stmt{Kind: of, Target: "q", Value: net("a"), Body: inner(0), Else: inner(1), Arms: arms}
			}
			ends(t, withProcs(api.Proc{Kind: api.ItComb, Body: stmts}))
			ends(t, withProcs(api.Proc{Kind: api.ItClock, Body: stmts}))
			ends(t, withProcs(api.Proc{Kind: api.ItAssign, Target: 2, Value: net("a"), Body: stmts}))
		}
	}
}

// What is small in memory, and has very many parts; what is deep.
func TestR1VeryManyParts(t *testing.T) {
	for _, op := range []int{api.OpAnd, api.OpCat, api.OpLt, api.OpShl} {
		x := net("a")
		for i := range 60 {
			x = api.Expr{Op: op, Kids: []api.Expr{x, x}}
			if i%10 == 5 {
				endsWith(t, x)
			}
		}
	}
	stmts := []api.Stmt{{Kind: api.StSet, Target: "q", Value: net("a")}}
	for i := range 40 {
		stmts = []api.Stmt{{Kind: api.StIf, Value: net("a"), Body: stmts, Else: stmts}}
		if i%8 == 0 {
			ends(t, withProcs(api.Proc{Kind: api.ItComb, Body: stmts}))
		}
	}
	endsWith(t, api.Expr{Op: api.OpCat, Kids: slices.Repeat([]api.Expr{net("a")}, 1<<20)})
	const deep = 1 << 18
	list, kids := make([]api.Stmt, deep), make([]api.Expr, deep)
	list[0], kids[0] = api.Stmt{Kind: api.StSet, Target: "q", Value: net("a")}, net("a")
	for i := 1; i < deep; i++ {
		list[i] = api.Stmt{Kind: api.StIf, Value: net("q"), Body: list[i-1 : i], Else: list[:1]}
		kids[i] = api.Expr{Op: []int{api.OpNeg, api.OpNot, api.OpAllR}[i%3], Kids: kids[i-1 : i]}
	}
	for _, n := range []int{deep - 1, 12000, 3000, 300} {
		ends(t, withProcs(api.Proc{Kind: api.ItComb, Body: list[n : n+1]}))
		endsWith(t, kids[n])
	}
}

// leaves is all fields and lists within a value.
func leaves(v reflect.Value) (list []reflect.Value) {
	switch v.Kind() {
	case reflect.Slice:
		list = append(list, v)
		for i := range v.Len() {
			list = append(list, leaves(v.Index(i))...)
		}
	case reflect.Struct:
		for i := range v.NumField() {
			list = append(list, leaves(v.Field(i))...)
		}
	default:
		list = append(list, v)
	}
	return list
}

// spoil makes one thing within a design another one.
func (d *dice) spoil(f any) {
	all := leaves(reflect.ValueOf(f).Elem())
	v := all[d.roll(len(all))]
	switch v.Kind() {
	case reflect.Int:
		v.SetInt(int64(d.roll(34) - 3))
	case reflect.Bool:
		v.SetBool(!v.Bool())
	case reflect.String:
		v.SetString(d.one("", "k", "n1", "i0", "n2", "\x00", "1", "x0"))
	case reflect.Slice:
		n := v.Len()
		switch kind := d.roll(3); {
		case kind == 0 && n > 0:
			v.Set(v.Slice(0, n-1))
		case kind == 1 && n > 0:
			v.Set(reflect.Append(v.Slice3(0, n, n), v.Index(d.roll(n))))
		default:
			v.Set(reflect.Append(v.Slice3(0, n, n), reflect.Zero(v.Type().Elem())))
		}
	}
}

func TestR1SpoiltDesigns(t *testing.T) {
	d := dice(60)
	for range 1500 {
		f, _ := readable(makeSource(&d, true))
		for range 1 + d.roll(4) {
			d.spoil(&f)
			ends(t, f)
		}
	}
}

func TestR1SpoiltNetlists(t *testing.T) {
	d := dice(61)
	for range 1500 {
		f, _ := readable(makeSource(&d, true))
		l, _ := lower.Run(f)
		for range 1 + d.roll(3) {
			d.spoil(&l)
			checked(t, l)
		}
	}
}

// largest is a text whose middle stands there as often as the tokens and bytes that there may be let.
func largest(before, middle, after string) string {
	count := func(s string) int { return strings.Count(s, " ") }
	n := min((api.MaxTokens-count(before)-count(after))/count(middle), (api.MaxSource-len(before)-len(after))/(len(middle)+4))
	return before + times(n, middle) + after
}

// Sources of as many tokens as there may be come to a netlist, or to too many nodes.
func TestLw1Largest(t *testing.T) {
	turns := "for ( i = 0 ; i < 64 ; i = i + 1 ) begin : g "
	for _, c := range []struct {
		before, middle, after string
		want                  api.Errno
	}{
		{"module m ( input a , output y ) ; assign y = ", "a + ", "a ; endmodule ", api.ErrSize},
		{"module m ( input a , output y ) ; assign y = ", "a && ", "a ; endmodule ", api.ErrSize},
		{"module m ( input a , output y ) ; assign y = ", "a < ", "a ; endmodule ", api.ErrSize},
		{"module m ( input a , output [ 7 : 0 ] y ) ; assign y = { a ", "} + { " + strings.Repeat("a , ", 99) + "a ", "} ; endmodule ", api.OK},
		{"module m ( input a ) ; " + turns + "wire y ; assign y = { a ", "} + { " + strings.Repeat("a , ", 254) + "a ", "} ; end endmodule ", api.ErrSize},
		{"module m ( input a ) ; " + turns + "wire y ; assign y = { a ", "} + { " + strings.Repeat("a , ", 199) + "a ", "} ; end endmodule ", api.ErrSize},
		{"module m ( input a ) ; " + turns + "reg q ; always @ ( * ) begin ", "q = a ; ", "end end endmodule ", api.OK},
		{"module m ( input a ) ; reg q ; always @ ( * ) begin q = a ; ", "if ( a ) begin end ", "end endmodule ", api.OK},
		{"module m ( input a ) ; reg q ; always @ ( * ) begin q = a ; case ( a ) ", "a : q = a ; ", "endcase end endmodule ", api.ErrSize},
		{"module m ( input a ) ; reg q ; always @ ( posedge a ) begin ", "if ( a ) q <= a ; ", "end endmodule ", api.OK},
	} {
		source := largest(c.before, c.middle, c.after)
		l, e := lower.Run(flatOf(t, source))
		if e != c.want || e == api.OK && lower.Check(l) != api.OK {
			t.Errorf("%s%s: %d, not %d; %d nodes", c.before, c.middle, e, c.want, len(l.Nodes))
		}
	}
}

// R2, R3, R4: the same is told again, and what is handed in stays as it was.
func TestR4Again(t *testing.T) {
	d := dice(70)
	for range 400 {
		f, why := readable(makeSource(&d, true))
		if len(why) > 0 {
			continue
		}
		before := fmt.Sprintf("%#v", f)
		l, e := lower.Run(f)
		shown := fmt.Sprintf("%#v", l)
		for range 3 {
			other, also := lower.Run(f)
			if fmt.Sprintf("%#v", other) != shown || e != also {
				t.Fatal("another netlist")
			}
			spoilAll(reflect.ValueOf(&other).Elem())
		}
		lower.Check(l)
		if fmt.Sprintf("%#v", f) != before || fmt.Sprintf("%#v", l) != shown {
			t.Fatal("changed")
		}
	}
}

// spoilAll writes into all lists of an answer: nobody else may have them.
func spoilAll(v reflect.Value) {
	switch v.Kind() {
	case reflect.Slice:
		for i := range v.Len() {
			spoilAll(v.Index(i))
			v.Index(i).SetZero()
		}
	case reflect.Struct:
		for i := range v.NumField() {
			spoilAll(v.Field(i))
		}
	}
}

// roomBehind is a copy of a value, whose lists have something behind their ends: elements of their own, or strange ones.
func roomBehind(v reflect.Value) reflect.Value {
	out := reflect.New(v.Type()).Elem()
	out.Set(v)
	switch v.Kind() {
	case reflect.Slice:
		out.Set(reflect.MakeSlice(v.Type(), 0, v.Len()+2))
		for i := range v.Len() {
			out.Set(reflect.Append(out, roomBehind(v.Index(i))))
		}
		behind := reflect.Zero(v.Type().Elem())
		if v.Len() > 0 {
			behind = v.Index(v.Len() - 1)
		}
		out.Set(reflect.Append(out, behind, reflect.Zero(v.Type().Elem())).Slice3(0, v.Len(), v.Len()+2))
	case reflect.Struct:
		for i := range v.NumField() {
			out.Field(i).Set(roomBehind(v.Field(i)))
		}
	}
	return out
}

// wholeOf is a value, and what lies behind the ends of its lists.
func wholeOf(v reflect.Value) []any {
	switch v.Kind() {
	case reflect.Slice:
		var list []any
		for i := range v.Cap() {
			list = append(list, wholeOf(v.Slice(0, v.Cap()).Index(i)))
		}
		return append(list, v.Len())
	case reflect.Struct:
		var list []any
		for i := range v.NumField() {
			list = append(list, wholeOf(v.Field(i)))
		}
		return list
	}
	return []any{v.Interface()}
}

func TestR3RoomBehind(t *testing.T) {
	d := dice(72)
	for range 300 {
		f, _ := readable(makeSource(&d, true))
		l, e := lower.Run(f)
		roomy := roomBehind(reflect.ValueOf(f)).Interface().(api.Flat)
		before := fmt.Sprint(wholeOf(reflect.ValueOf(roomy)))
		if other, also := lower.Run(roomy); !reflect.DeepEqual(other, l) || e != also {
			t.Fatal("another netlist by what lies behind")
		}
		if fmt.Sprint(wholeOf(reflect.ValueOf(roomy))) != before {
			t.Fatal("changed")
		}
		list := roomBehind(reflect.ValueOf(l)).Interface().(api.Netlist)
		before = fmt.Sprint(wholeOf(reflect.ValueOf(list)))
		if lower.Check(list) != lower.Check(l) || fmt.Sprint(wholeOf(reflect.ValueOf(list))) != before {
			t.Fatal("changed, or read")
		}
	}
}

// An answer's lists are its own, and no two of them are the same.
func TestR3ListsAreNew(t *testing.T) {
	d := dice(74)
	for range 300 {
		f, _ := readable(makeSource(&d, false))
		one, _ := lower.Run(f)
		other, _ := lower.Run(f)
		count := map[uintptr]int{}
		for _, l := range []api.Netlist{one, other} {
			for _, n := range l.Nodes {
				if len(n.Ins) > 0 {
					count[reflect.ValueOf(n.Ins).Pointer()]++
				}
			}
			count[reflect.ValueOf(l.Nets).Pointer()]++
			count[reflect.ValueOf(l.Nodes).Pointer()]++
		}
		for at, n := range count {
			if n > 1 {
				t.Fatalf("%d lists are at %d", n, at)
			}
		}
	}
}

// R4: nothing is kept from a call, refused or not, to the next one.
func TestR4NothingIsKept(t *testing.T) {
	large := flatOf(t, "module m(input a, output y); assign y = a"+times(5000, " + a")+"; endmodule")
	plain := flatOf(t, "module m(input a, output y); assign y = ~a; endmodule")
	want, _ := lower.Run(plain)
	for range 3 {
		if _, e := lower.Run(large); e != api.ErrSize {
			t.Error(e)
		}
		ends(t, withProcs(api.Proc{Kind: 9}))
		if l, e := lower.Run(plain); e != api.OK || !reflect.DeepEqual(l, want) {
			t.Error(l, e)
		}
	}
}
