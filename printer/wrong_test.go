package printer_test

import (
	"reflect"
	"silkworm/api"
	"silkworm/printer"
	"strings"
	"testing"
)

const languageWords = "module endmodule input output reg wire parameter localparam assign always posedge begin end if else case endcase default for"

// wrongNames is texts that are no names.
func wrongNames() []string {
	list := []string{"", " ", "a ", " a", "a b", "1", "1a", "a-b", "a.b", "a[0]", "a;", ";", "(a)", "a+b", "`a", "a//", "a/**/", "/**/a", "a\n", "\xff", "é", "\x00", "$", "a'", strings.Repeat("n", 65), "a ; wire b", "b ) ; endmodule module n ("}
	return append(list, strings.Fields(languageWords)...)
}

// whole is a tree in which each field of each kind is told; each call makes a new one.
func whole(t *testing.T) []api.Module {
	t.Helper()
	return modulesOf(t, "module m #(parameter N = 1) (input a, output b, output reg [N:0] c); endmodule module n();"+
		"wire [1:0] d, e; reg f; localparam L = 2; assign #3 g = h; assign i = j[1] + k[1:0] - {l, 2'b1x}; assign o = p ? ~q : r << s;"+
		"always @(*) begin if (a) b = c; else d = e; case (f) 1: g = h; default: i = j; endcase end always @(posedge k) l <= m;"+
		"sub #(.P(1)) u (.v(w)); for (i = 0; i < 2; i = i + 1) begin : x wire y; end endmodule")
}

// Each name of a tree, made something that is none.
func TestPt1WrongNames(t *testing.T) {
	names := 0
	for i, v := range leaves(reflect.ValueOf(new(whole(t))).Elem()) {
		if v.Kind() != reflect.String || v.String() == "" || strings.ContainsAny(v.String(), "01") {
			continue
		}
		names++
		for _, wrong := range wrongNames() {
			m := whole(t)
			leaves(reflect.ValueOf(&m).Elem())[i].SetString(wrong)
			treeIs(t, m, "")
		}
		m := whole(t)
		leaves(reflect.ValueOf(&m).Elem())[i].SetString(strings.Repeat("n", 64))
		if s, e := printer.Print(m); e != api.OK || strings.Count(s, strings.Repeat("n", 64)) == 0 {
			t.Errorf("%.300q %d: a name of 64 bytes", s, e)
		}
	}
	if names < 40 {
		t.Errorf("%d names", names)
	}
	for _, wrong := range wrongNames() {
		exprIs(t, name(wrong), "")
		exprIs(t, api.Expr{Op: api.OpBit, Name: wrong, Kids: []api.Expr{name("a")}}, "")
		exprIs(t, api.Expr{Op: api.OpPart, Name: wrong, Kids: []api.Expr{name("a"), name("b")}}, "")
	}
}

// Each field that is zero, made something that the text does not tell, or tells otherwise.
func TestPt1FieldsThatAreNotTold(t *testing.T) {
	other := func(v reflect.Value) bool {
		switch {
		case v.Kind() == reflect.String && v.String() == "":
			v.SetString("a")
		case v.Kind() == reflect.Int && v.Int() == 0:
			v.SetInt(api.OpName)
		case v.Kind() == reflect.Slice && v.Len() == 0:
			v.Set(reflect.MakeSlice(v.Type(), 1, 1))
		default:
			return false
		}
		return true
	}
	fields := 0
	for i := range leaves(reflect.ValueOf(new(whole(t))).Elem()) {
		m := whole(t)
		v := leaves(reflect.ValueOf(&m).Elem())[i]
		if other(v) {
			fields++
			treeIs(t, m, "")
		}
	}
	if fields < 400 {
		t.Errorf("%d fields", fields)
	}
}

// Each flag of a tree, turned.
func TestPt1Flags(t *testing.T) {
	told := map[api.Errno]int{}
	for i, v := range leaves(reflect.ValueOf(new(whole(t))).Elem()) {
		if v.Kind() != reflect.Bool {
			continue
		}
		m := whole(t)
		leaves(reflect.ValueOf(&m).Elem())[i].SetBool(!v.Bool())
		want, e := wantPrint(m)
		treeIs(t, m, want)
		told[e]++
	}
	if told[api.OK] < 3 || told[api.ErrArg] < 100 {
		t.Errorf("%v", told)
	}
}

func TestPt1WrongFlags(t *testing.T) {
	w := name("a")
	for _, p := range []api.Port{{Name: "a", Reg: true}, {Name: "a", Hi: w}, {Name: "a", Lo: w}, {Name: "a", Ranged: true}, {Name: "a", Ranged: true, Hi: w}, {Name: "a", Ranged: true, Lo: w}} {
		treeIs(t, []api.Module{{Name: "m", Ports: []api.Port{p}}}, "")
	}
	for _, x := range []api.Item{
		{Kind: api.ItWire, Names: []string{"a"}, Timed: true}, {Kind: api.ItWire, Names: []string{"a"}, Ranged: true}, {Kind: api.ItWire}, {Kind: api.ItReg},
		{Kind: api.ItAssign, Name: "a", Value: w, Ranged: true}, {Kind: api.ItAssign, Name: "a", Value: w, Ranged: true, Hi: w, Lo: w}, {Kind: api.ItAssign, Name: "a", Value: w, Timed: true}, {Kind: api.ItAssign, Name: "a", Value: w, Delay: w},
		{Kind: api.ItLocal, Name: "a", Value: w, Timed: true, Delay: w}, {Kind: api.ItLocal, Name: "a"}, {Kind: api.ItComb, Name: "c"}, {Kind: api.ItClock},
	} {
		treeIs(t, oneItem(x), "")
	}
	set := []api.Stmt{{Kind: api.StSet, Target: "a", Value: w}}
	for _, l := range [][]api.Arm{{{Default: true, Label: w}}, {{Default: true}, {Label: w}}, {{Default: true}, {Default: true}}, {{}}, {{Body: set}}} {
		treeIs(t, oneItem(api.Item{Kind: api.ItComb, Body: []api.Stmt{{Kind: api.StCase, Value: w, Arms: l}}}), "")
	}
	for _, s := range []api.Stmt{
		{Kind: api.StSet, Target: "a"}, {Kind: api.StSet, Target: "a", Value: w, Body: set}, {Kind: api.StDefer, Target: "a", Value: w, Else: set}, {Kind: api.StSet, Target: "a", Value: w, Arms: []api.Arm{{Label: w}}},
		{Kind: api.StIf}, {Kind: api.StIf, Value: w, Target: "a"}, {Kind: api.StIf, Value: w, Arms: []api.Arm{{Label: w}}}, {Kind: api.StCase, Value: w, Body: set}, {Kind: api.StCase, Value: w, Else: set},
	} {
		treeIs(t, oneItem(api.Item{Kind: api.ItComb, Body: []api.Stmt{s}}), "")
	}
	exprIs(t, api.Expr{Op: api.OpName, Name: "a", Plain: true}, "")
	exprIs(t, api.Expr{Op: api.OpName, Name: "a", Value: "1"}, "")
	exprIs(t, api.Expr{Op: api.OpNum, Name: "a", Value: "1"}, "")
	exprIs(t, api.Expr{Op: api.OpNot, Name: "a", Kids: []api.Expr{w}}, "")
	exprIs(t, api.Expr{Op: api.OpAdd, Plain: true, Kids: []api.Expr{w, w}}, "")
	exprIs(t, api.Expr{Op: api.OpBit, Name: "a", Value: "1", Kids: []api.Expr{w}}, "")
}

func TestPt1WrongKinds(t *testing.T) {
	for _, n := range []int{-1 << 63, -1, 0, api.ItFor + 1, 1 << 40} {
		treeIs(t, oneItem(api.Item{Kind: n}), "")
		treeIs(t, oneItem(api.Item{Kind: n, Name: "a", Module: "b", Names: []string{"c"}, Value: name("d")}), "")
	}
	for _, n := range []int{-1 << 63, -1, 0, api.StCase + 1, 1 << 40} {
		treeIs(t, oneItem(api.Item{Kind: api.ItComb, Body: []api.Stmt{{Kind: n, Target: "a", Value: name("b")}}}), "")
	}
}

// Each operator, and some that are none, with each number of parts.
func TestPt1WrongParts(t *testing.T) {
	ops := []int{-1 << 63, -1, 0, api.OpLor + 1, 1 << 40}
	for op := api.OpNum; op <= api.OpLor; op++ {
		ops = append(ops, op)
	}
	texts := 0
	for _, op := range ops {
		for n := range 5 {
			x := api.Expr{Op: op}
			for range n {
				x.Kids = append(x.Kids, name("a"))
			}
			switch op {
			case api.OpName, api.OpBit, api.OpPart:
				x.Name = "b"
			case api.OpNum:
				x.Value = "1"
			}
			want, _ := wantExpr(x)
			exprIs(t, x, want)
			if want != "" {
				texts++
			}
			want, _ = wantExpr(node(api.OpCat, x, name("c")))
			exprIs(t, node(api.OpCat, x, name("c")), want)
		}
	}
	if texts != 30 {
		t.Errorf("%d texts: one of each operator, three more of a list", texts)
	}
}

func TestPt1WrongNumbers(t *testing.T) {
	bits := strings.Repeat("0", 32)
	for _, v := range []string{"", " ", "X", "Z", "2", "01x_", "0_1", "1 ", " 1", "1 + 1", "1;", "é", "\x00", "x'b0", strings.Repeat("1", 257), strings.Repeat("z", 300)} {
		exprIs(t, api.Expr{Op: api.OpNum, Value: v}, "")
		exprIs(t, api.Expr{Op: api.OpNum, Value: v, Plain: true}, "")
	}
	for _, v := range []string{"1", bits[1:], bits + "0", bits[1:] + "x", "z" + bits[1:], "+" + bits[1:], "-" + bits[1:], "0b" + bits[2:], "0_" + bits[2:], " " + bits[1:], bits[1:] + " ", bits + bits, strings.Repeat("0", 256), strings.Repeat("1", 33)} {
		exprIs(t, api.Expr{Op: api.OpNum, Value: v, Plain: true}, "")
	}
}

func TestPt1NoModules(t *testing.T) {
	treeIs(t, nil, "")
	treeIs(t, []api.Module{}, "")
	treeIs(t, []api.Module{{}}, "")
	treeIs(t, []api.Module{{Name: "m"}, {}}, "")
	exprIs(t, api.Expr{}, "")
}

// Trees of which one field is another one, against the chapter's words.
func TestPt1SpoiltTrees(t *testing.T) {
	d := dice(77)
	told := map[api.Errno]int{}
	for i := range 3000 {
		m := makeModules(&d, 5+i%30)
		d.spoil(&m)
		want, e := wantPrint(m)
		treeIs(t, m, want)
		told[e]++
	}
	for i := range 6000 {
		x := makeExpr(&d, i%4)
		d.spoil(&x)
		want, e := wantExpr(x)
		exprIs(t, x, want)
		told[e]++
	}
	if told[api.OK] < 700 || told[api.ErrArg] < 3000 {
		t.Errorf("%v", told)
	}
}
