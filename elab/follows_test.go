package elab_test

import (
	"fmt"
	"reflect"
	"silkworm/api"
	"silkworm/elab"
	"silkworm/sema"
	"testing"
)

// again is a flat design as a module: its ports, its other nets, and its processes as items.
func again(f api.Flat, name string) api.Module {
	m := api.Module{Name: name}
	drives := map[string]int{}
	for _, p := range f.Procs {
		targetsOf(p.Body, drives)
	}
	number := func(n int) api.Expr { return api.Expr{Op: api.OpNum, Value: fmt.Sprintf("%032b", n), Plain: true} }
	for i, n := range f.Nets {
		if i < f.Ports {
			m.Ports = append(m.Ports, api.Port{Name: n.Name, Out: n.Kind != api.NetIn, Reg: drives[n.Name] > 0, Ranged: true, Hi: number(n.Wide - 1), Lo: number(0)})
			continue
		}
		kind := api.ItWire
		if drives[n.Name] > 0 {
			kind = api.ItReg
		}
		m.Items = append(m.Items, api.Item{Kind: kind, Names: []string{n.Name}, Ranged: true, Hi: number(n.Wide - 1), Lo: number(0)})
	}
	for _, p := range f.Procs {
		x := api.Item{Kind: p.Kind, Value: p.Value, Body: p.Body, Timed: p.Delay > 0, Delay: number(p.Delay)}
		switch p.Kind {
		case api.ItAssign:
			x.Name = f.Nets[p.Target].Name
		case api.ItClock:
			x.Name = f.Nets[p.Clock].Name
		}
		m.Items = append(m.Items, x)
	}
	return m
}

func targetsOf(l []api.Stmt, drives map[string]int) {
	for _, x := range l {
		if x.Target != "" {
			drives[x.Target]++
		}
		targetsOf(x.Body, drives)
		targetsOf(x.Else, drives)
		for _, a := range x.Arms {
			targetsOf(a.Body, drives)
		}
	}
}

// parts is how many expressions stand within a design.
func parts(f api.Flat) int {
	return len(places(reflect.ValueOf(f)))
}

// El4: a flat design is built again from itself, whatever modules are beside it.
func TestEl4Again(t *testing.T) {
	d := dice(44)
	rebuilt := 0
	for i := range 2500 {
		source := makeSource(&d, 0, i%9 == 0)
		m, _ := readable(source)
		f, why := elab.Build(m, m[0].Name)
		if len(why) > 0 || parts(f) > api.MaxTokens {
			continue
		}
		rebuilt++
		for _, l := range [][]api.Module{{again(f, "m0")}, {again(f, "other"), again(f, "flat")}, {{Name: "u"}, again(f, "")}} {
			if g, why := elab.Build(l, l[len(l)-1].Name); len(why) > 0 || !reflect.DeepEqual(f, g) {
				t.Fatalf("%s: %v\n%s\n%s", source, why, netsText(g), procsText(g))
			}
		}
	}
	if rebuilt < 1200 {
		t.Errorf("only %d are built again", rebuilt)
	}
}

// Wide agrees with what Build looked at: every value of a design has a width.
func TestEl3ValuesOfDesigns(t *testing.T) {
	d := dice(46)
	values := 0
	for range 600 {
		m, _ := readable(makeSource(&d, 0, false))
		f, _ := elab.Build(m, m[0].Name)
		for _, p := range f.Procs {
			if p.Kind != api.ItAssign {
				continue
			}
			values++
			want, why := wideExpected(p.Value, f.Nets)
			if why.Code != api.OK {
				t.Fatalf("%s: %v", exprText(p.Value), why)
			}
			wideTold(t, p.Value, f.Nets, want, api.Diag{})
		}
	}
	if values < 1000 {
		t.Errorf("only %d values", values)
	}
}

// R2: there is one reason, or none; beside a reason there is no design, and its place is one of the source's.
func TestR2OneReason(t *testing.T) {
	d := dice(48)
	for range 2000 {
		source := makeSource(&d, 40, false)
		m, _ := readable(source)
		f, why := elab.Build(m, m[0].Name)
		if len(why) > 1 || len(why) == 1 && (why[0].Code == api.OK || !reflect.DeepEqual(f, api.Flat{})) {
			t.Fatalf("%s: %v %v", source, f, why)
		}
		there := map[int]int{0: 1}
		for _, at := range places(reflect.ValueOf(m)) {
			there[at]++
		}
		if len(why) == 1 && there[why[0].At] == 0 {
			t.Fatalf("%s: %v", source, why)
		}
	}
}

// strange is a value for each kind of list, that would be refused, or would be more than there is.
func strange() []any {
	k := api.Expr{Op: api.OpName, Name: "k", At: 901}
	return []any{
		k, "k", api.Bind{Name: "k", Value: k, At: 902}, api.Port{Name: "k", At: 903}, api.Item{Kind: api.ItWire, Names: []string{"k", "h"}, At: 904},
		api.Stmt{Kind: api.StSet, Target: "k", Value: k, At: 905}, api.Arm{Default: true, Body: []api.Stmt{{Kind: api.StDefer, Target: "k", At: 906}}}, api.Module{Name: "m0", At: 907}, api.Net{Name: "k", Wide: 9},
	}
}

// roomBehind is a copy of a value, whose lists have something behind their ends.
func roomBehind(v, strange reflect.Value) reflect.Value {
	out := reflect.New(v.Type()).Elem()
	out.Set(v)
	switch v.Kind() {
	case reflect.Slice:
		out.Set(reflect.MakeSlice(v.Type(), 0, v.Len()+2))
		for i := range v.Len() {
			out.Set(reflect.Append(out, roomBehind(v.Index(i), strange)))
		}
		for i := range strange.Len() {
			if x := strange.Index(i).Elem(); x.Type() == v.Type().Elem() {
				out.Set(reflect.Append(out, x, x).Slice3(0, v.Len(), v.Len()+2))
			}
		}
	case reflect.Struct:
		for i := range v.NumField() {
			out.Field(i).Set(roomBehind(v.Field(i), strange))
		}
	}
	return out
}

// wholeOf is a value, and what lies behind the ends of its lists.
func wholeOf(v reflect.Value) []any {
	switch v.Kind() {
	case reflect.Slice:
		var list []any
		for i := range v.Cap() {
			list = append(list, wholeOf(v.Slice(0, v.Cap()).Index(i)))
		}
		return append(list, v.Len())
	case reflect.Struct:
		var list []any
		for i := range v.NumField() {
			list = append(list, wholeOf(v.Field(i)))
		}
		return list
	}
	return []any{v.Interface()}
}

// R3 and R4: what is handed in is not changed, what lies behind its lists' ends is not read, and the same is told again.
func TestR3HandedIn(t *testing.T) {
	d := dice(50)
	for i := range 200 {
		m, _ := readable(makeSource(&d, []int{0, 0, 20}[i%3], false))
		f, why := elab.Build(m, "m0")
		want := fmt.Sprint(f, why)
		roomy := roomBehind(reflect.ValueOf(m), reflect.ValueOf(strange())).Interface().([]api.Module)
		before := fmt.Sprint(wholeOf(reflect.ValueOf(roomy)))
		for range 2 {
			g, why := elab.Build(roomy, "m0")
			if fmt.Sprint(g, why) != want {
				t.Fatal("another design by what lies behind")
			}
			spoilAll(reflect.ValueOf(&g).Elem())
		}
		if fmt.Sprint(wholeOf(reflect.ValueOf(roomy))) != before {
			t.Fatal("changed")
		}
		for _, p := range f.Procs[:min(len(f.Procs), 3)] {
			x, nets := roomBehind(reflect.ValueOf(p.Value), reflect.ValueOf(strange())).Interface().(api.Expr), roomBehind(reflect.ValueOf(f.Nets), reflect.ValueOf(strange())).Interface().([]api.Net)
			shown := fmt.Sprint(wholeOf(reflect.ValueOf(x)), wholeOf(reflect.ValueOf(nets)))
			n, why := elab.Wide(p.Value, f.Nets)
			wideTold(t, x, nets, n, why)
			if fmt.Sprint(wholeOf(reflect.ValueOf(x)), wholeOf(reflect.ValueOf(nets))) != shown {
				t.Fatal("changed")
			}
		}
	}
}

// spoilAll writes into all lists of an answer: nobody else may have them.
func spoilAll(v reflect.Value) {
	switch v.Kind() {
	case reflect.Slice:
		for i := range v.Len() {
			spoilAll(v.Index(i))
			v.Index(i).SetZero()
		}
	case reflect.Struct:
		for i := range v.NumField() {
			spoilAll(v.Field(i))
		}
	}
}

// lists calls a function with the first element of each list within a value.
func lists(v reflect.Value, each func(at uintptr)) {
	switch v.Kind() {
	case reflect.Slice:
		if v.Len() > 0 {
			each(v.Pointer())
		}
		for i := range v.Len() {
			lists(v.Index(i), each)
		}
	case reflect.Struct:
		for i := range v.NumField() {
			lists(v.Field(i), each)
		}
	}
}

// An answer's lists are its own, and no two of them are the same.
func TestR3ListsAreNew(t *testing.T) {
	d := dice(52)
	for range 300 {
		m, _ := readable(makeSource(&d, 0, false))
		f, _ := elab.Build(m, "m0")
		g, _ := elab.Build(m, "m0")
		count := map[uintptr]int{}
		for _, v := range []any{m, f, g} {
			lists(reflect.ValueOf(v), func(at uintptr) { count[at]++ })
		}
		for at, n := range count {
			if n > 1 {
				t.Fatalf("%d lists are at %d", n, at)
			}
		}
	}
}

// R3: nil and the empty list are the same.
func TestR3EmptyLists(t *testing.T) {
	d := dice(54)
	for range 200 {
		m, _ := readable(makeSource(&d, 10, false))
		full := roomBehind(reflect.ValueOf(m), reflect.ValueOf([]any{})).Interface().([]api.Module)
		f, why := elab.Build(m, "m0")
		if g, also := elab.Build(full, "m0"); fmt.Sprint(f, why) != fmt.Sprint(g, also) {
			t.Fatal(f, why, g, also)
		}
	}
	wideTold(t, api.Expr{Op: api.OpNum, Value: "1", Kids: []api.Expr{}}, []api.Net{}, 1, api.Diag{})
}

// R4: nothing is kept from a call, refused or not, to the next one.
func TestR4NothingIsKept(t *testing.T) {
	full := "module m(); " + loop("i", 64, "g", "wire a, b, c, d, e, f, g, h; e u (); e v (); e w (); e x (); always @(*) begin end always @(*) begin end always @(*) begin end always @(*) begin end") + " endmodule module e(); endmodule"
	for range 3 {
		accepted(t, full)
		refusedAt(t, api.ErrSize, "module m(); $for (i = 0; 1; i = i) begin : g end endmodule")
		refusedAt(t, api.ErrModule, "module m(); $m u (); endmodule")
		netsAre(t, "module m(input a); endmodule", "a:in |")
	}
}

// What layer 7 refuses is refused by its own reason.
func TestEl1LayerSeven(t *testing.T) {
	d := dice(56)
	refused := 0
	for range 1500 {
		m, _ := readable(makeSource(&d, 40, false))
		want := sema.Check(m)
		if len(want) == 0 {
			continue
		}
		refused++
		if f, why := elab.Build(m, "m0"); !reflect.DeepEqual(why, want) || !reflect.DeepEqual(f, api.Flat{}) {
			t.Fatal(f, why, want)
		}
	}
	if refused < 300 {
		t.Errorf("only %d are refused", refused)
	}
}
