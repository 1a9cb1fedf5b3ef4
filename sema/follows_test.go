package sema_test

import (
	"fmt"
	"reflect"
	"silkworm/api"
	"silkworm/sema"
	"slices"
	"testing"
)

// scopesOf calls a function with the items of each scope of a module.
func scopesOf(l []api.Item, each func([]api.Item)) {
	each(l)
	for _, x := range l {
		if x.Kind == api.ItFor {
			scopesOf(x.Items, each)
		}
	}
}

// targetsOf is what statements assign, and in which ways.
func targetsOf(l []api.Stmt, targets map[string]int, kinds map[int]int) {
	for _, x := range l {
		if x.Kind == api.StSet || x.Kind == api.StDefer {
			targets[x.Target]++
			kinds[x.Kind]++
		}
		targetsOf(x.Body, targets, kinds)
		targetsOf(x.Else, targets, kinds)
		for _, a := range x.Arms {
			targetsOf(a.Body, targets, kinds)
		}
	}
}

// driversOf is how many items drive each net of a scope. (An output bound counts by its bind.)
func driversOf(m []api.Module, l []api.Item) map[string]int {
	count := map[string]int{}
	for _, x := range l {
		switch x.Kind {
		case api.ItAssign:
			count[x.Name]++
		case api.ItComb, api.ItClock:
			targets := map[string]int{}
			targetsOf(x.Body, targets, map[int]int{})
			for name := range targets {
				count[name]++
			}
		case api.ItInst:
			of := m[slices.IndexFunc(m, func(o api.Module) bool { return o.Name == x.Module })]
			for _, b := range x.Ports {
				if of.Ports[slices.IndexFunc(of.Ports, func(p api.Port) bool { return p.Name == b.Name })].Out {
					count[b.Value.Name]++
				}
			}
		}
	}
	return count
}

// Sm2: what is not refused has one driver for each net at the most, one way to assign in each always, and keeps nothing without a clock.
func TestSm2WhatIsNotRefused(t *testing.T) {
	d := dice(11)
	nets, processes, runs := 0, 0, 0
	for i := range 6000 {
		source := makeSource(&d, []int{0, 3, 15, 60}[i%4])
		m, ok := readable(source)
		if !ok || len(sema.Check(m)) > 0 {
			continue
		}
		for _, x := range m {
			scopesOf(x.Items, func(l []api.Item) {
				for name, n := range driversOf(m, l) {
					nets++
					if n > 1 {
						t.Fatalf("%s: %d drivers of %s", source, n, name)
					}
				}
				for _, p := range l {
					if p.Kind == api.ItComb || p.Kind == api.ItClock {
						processes++
						runs += keeps(t, source, p, &d)
					}
				}
			})
		}
	}
	if nets < 10000 || processes < 5000 || runs < 10000 {
		t.Errorf("only %d nets, %d processes, %d runs", nets, processes, runs)
	}
}

// keeps looks at an always, by some ways through it: how many.
func keeps(t *testing.T, source string, x api.Item, d *dice) int {
	t.Helper()
	targets, kinds := map[string]int{}, map[int]int{}
	targetsOf(x.Body, targets, kinds)
	if len(kinds) > 1 || kinds[api.StDefer] > 0 && x.Kind == api.ItComb || kinds[api.StSet] > 0 && x.Kind == api.ItClock {
		t.Fatalf("%s: the ways to assign of %d: %v", source, x.At, kinds)
	}
	if x.Kind == api.ItClock {
		return 0
	}
	for range 8 {
		r := run{choose: d.roll, assigned: map[string]int{}, early: map[int]string{}}
		r.stmts(x.Body)
		for at, name := range r.early {
			if targets[name] > 0 {
				t.Fatalf("%s: %s at %d is kept", source, name, at)
			}
		}
		if len(r.assigned) != len(targets) {
			t.Fatalf("%s: the always at %d assigns %v on a way, and %v on all", source, x.At, r.assigned, targets)
		}
	}
	return 8
}

// R2: there is one reason, or none; its place is one of the source's.
func TestR2OneReason(t *testing.T) {
	d := dice(13)
	for range 3000 {
		source := makeSource(&d, 30)
		m, _ := readable(source)
		places := map[int]int{}
		placesOf(reflect.ValueOf(m), places)
		if why := sema.Check(m); len(why) > 1 || len(why) == 1 && (why[0].Code == api.OK || places[why[0].At] == 0) {
			t.Fatalf("%s: %v", source, why)
		}
	}
}

func placesOf(v reflect.Value, places map[int]int) {
	switch v.Kind() {
	case reflect.Slice:
		for i := range v.Len() {
			placesOf(v.Index(i), places)
		}
	case reflect.Struct:
		for i := range v.NumField() {
			if v.Type().Field(i).Name == "At" {
				places[int(v.Field(i).Int())]++
			}
			placesOf(v.Field(i), places)
		}
	}
}

// R3 and R4: what is handed in is not changed, what lies behind its lists' ends is not read, and the same is told again.
func TestR3HandedIn(t *testing.T) {
	d := dice(17)
	for i := range 300 {
		source := makeSource(&d, []int{0, 20}[i%2])
		m, _ := readable(source)
		want := sema.Check(m)
		roomy := roomBehind(reflect.ValueOf(m), reflect.ValueOf(strange())).Interface().([]api.Module)
		before := fmt.Sprint(wholeOf(reflect.ValueOf(roomy)))
		checkIs(t, source, roomy, want)
		if fmt.Sprint(wholeOf(reflect.ValueOf(roomy))) != before {
			t.Fatalf("%s: changed", source)
		}
		checkIs(t, source, roomy, want)
		checkIs(t, source, m, want)
	}
}

// strange is a value for each kind of list, that would be refused, or would let something be accepted.
func strange() []any {
	k := api.Expr{Op: api.OpName, Name: "k", At: 901}
	return []any{
		k, "k", api.Bind{Name: "k", Value: k, At: 902}, api.Port{Name: "k", At: 903}, api.Item{Kind: api.ItWire, Names: []string{"k", "h", "k"}, At: 904},
		api.Stmt{Kind: api.StSet, Target: "k", Value: k, At: 905}, api.Arm{Default: true, Body: []api.Stmt{{Kind: api.StDefer, Target: "k", At: 906}}}, api.Module{Name: "m0", At: 907},
	}
}

// roomBehind is a copy of a value, whose lists have something behind their ends.
func roomBehind(v, strange reflect.Value) reflect.Value {
	out := reflect.New(v.Type()).Elem()
	out.Set(v)
	switch v.Kind() {
	case reflect.Slice:
		out.Set(reflect.MakeSlice(v.Type(), 0, v.Len()+2))
		for i := range v.Len() {
			out.Set(reflect.Append(out, roomBehind(v.Index(i), strange)))
		}
		for i := range strange.Len() {
			if x := strange.Index(i).Elem(); x.Type() == v.Type().Elem() {
				out.Set(reflect.Append(out, x, x).Slice3(0, v.Len(), v.Len()+2))
			}
		}
	case reflect.Struct:
		for i := range v.NumField() {
			out.Field(i).Set(roomBehind(v.Field(i), strange))
		}
	}
	return out
}

// wholeOf is a value, and what lies behind the ends of its lists.
func wholeOf(v reflect.Value) []any {
	switch v.Kind() {
	case reflect.Slice:
		var list []any
		for i := range v.Cap() {
			list = append(list, wholeOf(v.Slice(0, v.Cap()).Index(i)))
		}
		return append(list, v.Len())
	case reflect.Struct:
		var list []any
		for i := range v.NumField() {
			list = append(list, wholeOf(v.Field(i)))
		}
		return list
	}
	return []any{v.Interface()}
}

// R3: nil and the empty list are the same.
func TestR3EmptyLists(t *testing.T) {
	checkIs(t, "", nil, nil)
	checkIs(t, "", []api.Module{}, nil)
	d := dice(19)
	for range 300 {
		source := makeSource(&d, 15)
		m, _ := readable(source)
		full := roomBehind(reflect.ValueOf(m), reflect.ValueOf([]any{})).Interface().([]api.Module)
		checkIs(t, source, full, sema.Check(m))
	}
}

// R4: nothing is kept from a call, refused or not, to the next one.
func TestR4NothingIsKept(t *testing.T) {
	for range 3 {
		sourceIs(t, "module m(output y); assign y = 1; endmodule", api.OK)
		sourceIs(t, "module m(output y); assign y = 1; $assign y = 1; endmodule", api.ErrDrive)
		sourceIs(t, "module m(output y); $n u (.a(y)); endmodule", api.ErrModule)
		sourceIs(t, "module n(output a); endmodule module m(output y); n u (.a(y)); endmodule", api.OK)
		sourceIs(t, "module m(output reg y, input a); $always @(*) if (a) y = 1; endmodule", api.ErrLatch)
		sourceIs(t, "module m(output reg y, input a); always @(*) if (a) y = 1; else y = 0; endmodule", api.OK)
	}
}
