package printer_test

import (
	"reflect"
	"silkworm/api"
	"silkworm/printer"
	"slices"
	"strings"
	"testing"
)

// corpus is sources in which each place of the grammar stands, with brackets and begins that a text has not.
func corpus() []string {
	return []string{
		"module m(); endmodule",
		"module m(input a); endmodule module n(output b); endmodule",
		"module m #(parameter N = 4, parameter M = (N + 1)) (input a, input [(N-1):0] b, output c, output [3:0] d, output reg e, output reg [M:0] f); endmodule",
		"module m(); wire a; wire [3:0] b, c; reg d, e, f; reg [1:0] g; localparam L = ((3)); endmodule",
		"module m(); assign a = b; assign #2 c = d; assign #(N + 1) e = f; assign #(N) g = h; assign #N[1] g = h; assign #N[1:0] g = h; assign #{a, b} c = d; assign #(~N) g = h; endmodule",
		"module m(); always @(*) a = b; always @(posedge c) d <= e; always @(*) begin end endmodule",
		"module m(); sub u (); sub v (.a((b))); sub #(.N(3)) w (.a(b), .c(d + 1)); sub #(.N(3), .M(4)) x (); endmodule",
		"module m(); for (i = 0; i < 4; i = (i + 1)) begin : g wire a; for (j = i; j; j = j - 1) begin : h end sub u (.a(a)); end endmodule",
		"module m(); always @(*) begin if (a) b = c; if (a) b = c; else d = e; if (a) if (b) c = d; else e = f; else begin g = h; i = j; end end endmodule",
		"module m(); always @(*) begin case (a) endcase case (a) default: b = c; endcase case (a) 1: b = c; 2'b1x: begin end default: d = e; endcase case (a) (a ? b : c) : d = e; endcase end endmodule",
		"module m(); always @(posedge c) begin a <= (b <= c); begin d = e; end begin begin end end end endmodule",
		"module m(); assign y = a ? b : c ? d : e || f && g | h ^ i & j == k != l < m <= n > o >= p << q >> r + s - t; endmodule",
		"module m(); assign y = ~(a) + !b - -c & &d | |e ^ ^f; assign y = a[1] + a[b:0] + (a) + {a} + {a, b, c} + 12 + 4'hx + 8'd7; endmodule",
	}
}

// Pt2: what is read out of a text is the tree, and its text is the same.
func TestPt2ReadAndPrintedAgain(t *testing.T) {
	d := dice(21)
	var trees [][]api.Module
	for _, s := range corpus() {
		trees = append(trees, modulesOf(t, s))
	}
	for i := range 1000 {
		trees = append(trees, makeModules(&d, i%200))
	}
	trees = append(trees, longModule(65536))
	for _, m := range trees {
		s, e := printer.Print(m)
		if e != api.OK {
			t.Fatalf("%+v: %d", m, e)
		}
		again := modulesOf(t, s)
		if told(again) != told(m) {
			t.Fatalf("%+v, not %+v", again, m)
		}
		treeIs(t, again, s)
	}
	for i := range 3000 {
		x := makeExpr(&d, i%9)
		s, e := printer.Expr(x)
		if e != api.OK {
			t.Fatalf("%+v: %d", x, e)
		}
		again := exprOf(t, s)
		if told(again) != told(x) {
			t.Fatalf("%+v, not %+v", again, x)
		}
		exprIs(t, again, s)
	}
}

// An expression's text is the same within a module.
func TestPt2ExprWithinAModule(t *testing.T) {
	d := dice(22)
	for i := range 1000 {
		x := makeExpr(&d, i%7)
		s, _ := printer.Expr(x)
		treeIs(t, oneItem(api.Item{Kind: api.ItAssign, Name: "a", Value: x}), "module m ( ) ;\nassign a = "+s+";\nendmodule\n")
		treeIs(t, oneItem(api.Item{Kind: api.ItComb, Body: []api.Stmt{{Kind: api.StIf, Value: x}}}), "module m ( ) ;\nalways @ ( * ) begin\nif ( "+s+") begin\nend\nend\nendmodule\n")
	}
}

// refusedExpr tells that a tree has no text, wherever it stands.
func refusedExpr(t *testing.T, x api.Expr) {
	t.Helper()
	exprIs(t, x, "")
	l := []api.Expr{x, x}
	y := name("y")
	set := []api.Stmt{{Kind: api.StSet, Target: "a", Value: x}}
	for _, item := range []api.Item{
		{Kind: api.ItWire, Names: []string{"a"}, Ranged: true, Hi: x, Lo: y}, {Kind: api.ItReg, Names: []string{"a"}, Ranged: true, Hi: y, Lo: x}, {Kind: api.ItLocal, Name: "a", Value: x},
		{Kind: api.ItAssign, Name: "a", Value: x}, {Kind: api.ItAssign, Name: "a", Timed: true, Delay: x, Value: y}, {Kind: api.ItComb, Body: set}, {Kind: api.ItComb, Body: []api.Stmt{{Kind: api.StCase, Value: y, Arms: []api.Arm{{Label: x}}}}},
		{Kind: api.ItInst, Name: "a", Module: "b", Ports: []api.Bind{{Name: "c", Value: x}}}, {Kind: api.ItFor, Var: "i", Name: "g", Value: y, While: x, Next: y}, {Kind: api.ItAssign, Name: "a", Value: node(api.OpCat, l...)},
		// What is not told is looked at as well.
		{Kind: api.ItWire, Names: []string{"a"}, Hi: x}, {Kind: api.ItAssign, Name: "a", Delay: x, Value: y}, {Kind: api.ItComb, Value: x},
	} {
		treeIs(t, oneItem(item), "")
	}
}

// R1: trees that have no end, since they stand within themselves.
func TestR1TreesWithinThemselves(t *testing.T) {
	for op := api.OpBit; op <= api.OpLor; op++ {
		for n := range partsOf(op) {
			kids := slices.Repeat([]api.Expr{name("a")}, partsOf(op))
			x := api.Expr{Op: op, Kids: kids}
			if op <= api.OpPart {
				x.Name = "a"
			}
			kids[n] = x
			refusedExpr(t, x)
		}
	}
	for _, s := range []api.Stmt{{Kind: api.StIf, Value: name("a")}, {Kind: api.StCase, Value: name("a")}} {
		for way := range 3 {
			body := []api.Stmt{s}
			switch way {
			case 0:
				body[0].Body = body
			case 1:
				body[0].Else = body
			case 2:
				body[0].Arms = []api.Arm{{Label: name("a"), Body: body}}
			}
			treeIs(t, oneItem(api.Item{Kind: api.ItComb, Body: body}), "")
		}
	}
	items := []api.Item{{Kind: api.ItFor, Var: "i", Name: "g", Value: name("a"), While: name("a"), Next: name("a")}}
	items[0].Items = items
	treeIs(t, []api.Module{{Name: "m", Items: items}}, "")
}

// R1: trees that are small, and have a text that is not.
func TestR1TreesThatDouble(t *testing.T) {
	for op := api.OpCat; op <= api.OpLor; op++ {
		x := name("a")
		for range 100 {
			x = node(op, slices.Repeat([]api.Expr{x}, partsOf(op))...)
		}
		refusedExpr(t, x)
	}
	stmts := []api.Stmt{{Kind: api.StSet, Target: "a", Value: name("b")}}
	for range 100 {
		stmts = []api.Stmt{{Kind: api.StIf, Value: name("a"), Body: stmts, Else: stmts}}
	}
	treeIs(t, oneItem(api.Item{Kind: api.ItComb, Body: stmts}), "")
}

func TestR1LargeTrees(t *testing.T) {
	long := strings.Repeat("1", 1<<24)
	refusedExpr(t, name(long))
	refusedExpr(t, api.Expr{Op: api.OpNum, Value: long})
	refusedExpr(t, api.Expr{Op: api.OpNum, Value: long, Plain: true})
	refusedExpr(t, node(api.OpCat, slices.Repeat([]api.Expr{name("a")}, 1<<18)...))
	refusedExpr(t, node(api.OpAdd, slices.Repeat([]api.Expr{name("a")}, 1<<18)...))
	treeIs(t, slices.Repeat([]api.Module{{Name: "m"}}, 1<<16), "")
	treeIs(t, oneItem(api.Item{Kind: api.ItWire, Names: slices.Repeat([]string{"a"}, 1<<18)}), "")
	treeIs(t, oneItem(api.Item{Kind: api.ItComb, Body: make([]api.Stmt, 1<<16)}), "")
	x := name("a")
	for range 1 << 18 {
		x = node(api.OpSub, x, name("b"))
	}
	refusedExpr(t, x)
	for range 1 << 16 {
		x = node(api.OpNot, x)
	}
	refusedExpr(t, x)
}

// R3: what is handed in is not changed, and what lies behind a list's end is not read.
func TestR3HandedIn(t *testing.T) {
	d := dice(31)
	for i := range 300 {
		m := makeModules(&d, 5+i%60)
		if i%3 == 0 {
			d.spoil(&m)
		}
		s, e := printer.Print(m)
		before := told(m)
		all := leaves(reflect.ValueOf(&m).Elem())
		for _, v := range slices.Backward(all) {
			if v.Kind() == reflect.Slice {
				more := reflect.MakeSlice(v.Type(), v.Len()+2, v.Len()+2)
				reflect.Copy(more, v)
				if v.Len() > 0 {
					more.Index(v.Len()).Set(v.Index(0))
				}
				v.Set(more.Slice(0, v.Len()))
			}
		}
		if got, code := printer.Print(m); got != s || code != e {
			t.Fatalf("%q %d, then %q %d", s, e, got, code)
		}
		if told(m) != before {
			t.Fatalf("%+v: changed", m)
		}
	}
}

// R3: nil and the empty list are the same.
func TestR3EmptyLists(t *testing.T) {
	m := modulesOf(t, "module m(); assign a = b; always @(*) if (c) begin end always @(*) case (d) 1: begin end endcase sub u (); for (i = 0; 1; i = 1) begin : g end endmodule")
	want, _ := printer.Print(m)
	for _, v := range leaves(reflect.ValueOf(&m).Elem()) {
		if v.Kind() == reflect.Slice && v.Len() == 0 {
			v.Set(reflect.MakeSlice(v.Type(), 0, 0))
		}
	}
	treeIs(t, m, want)
	exprIs(t, api.Expr{Op: api.OpName, Name: "a", Kids: []api.Expr{}}, "a ")
}

// Places do not matter, also where there is nothing that they could be of.
func TestPt1PlacesAside(t *testing.T) {
	m := modulesOf(t, "module m(input a); wire b; assign c = ~d; always @(*) if (e) begin end else f = g; always @(*) case (h) default: i = j; endcase endmodule")
	want, _ := printer.Print(m)
	var places func(v reflect.Value)
	places = func(v reflect.Value) {
		switch v.Kind() {
		case reflect.Slice:
			for i := range v.Len() {
				places(v.Index(i))
			}
		case reflect.Struct:
			for i := range v.NumField() {
				if v.Type().Field(i).Name == "At" {
					v.Field(i).SetInt(-1 << 63)
				} else {
					places(v.Field(i))
				}
			}
		}
	}
	places(reflect.ValueOf(&m).Elem())
	treeIs(t, m, want)
	exprIs(t, api.Expr{Op: api.OpName, Name: "a", At: -5}, "a ")
}

// R4: what an earlier call was told is not there in a later one.
func TestR4NothingIsKept(t *testing.T) {
	for range 3 {
		itemIs(t, "wire a;", "wire a ;\n")
		treeIs(t, oneItem(api.Item{Kind: api.ItFor, Var: "i", Name: "begin"}), "")
		exprIs(t, name("for"), "")
		exprIs(t, longExpr(70000), "")
		sourceIs(t, "a + b", "a + b ")
		bodyIs(t, "a = b;", "a = b ;\n")
	}
}
