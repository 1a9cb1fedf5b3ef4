package syntax_test

import (
	"fmt"
	"silkworm/api"
	"silkworm/pre"
	"silkworm/syntax"
	"slices"
	"strconv"
	"strings"
	"testing"
)

// same tells whether two trees are the same in each field; nil and the empty list are.
func same(a, b any) bool {
	return fmt.Sprintf("%+v", a) == fmt.Sprintf("%+v", b)
}

// read is the modules of tokens that are no source's fault.
func read(t *testing.T, l []api.Token) []api.Module {
	t.Helper()
	m, d := syntax.Parse(l)
	if len(d) != 0 {
		t.Fatalf("%s: %v", textOf(l), d)
	}
	return m
}

// textOf is tokens as a test tells them, the first ones left out where they are many.
func textOf(l []api.Token) string {
	var b strings.Builder
	l = l[max(len(l)-60, 0):]
	for _, t := range l {
		b.WriteString(t.Text + "@" + strconv.Itoa(t.At) + " ")
	}
	return b.String()
}

// refusedIs tells that tokens are refused for one reason, without modules.
func refusedIs(t *testing.T, l []api.Token, at int, e api.Errno) {
	t.Helper()
	m, d := syntax.Parse(l)
	if len(m) != 0 || !slices.Equal(d, []api.Diag{{At: at, Code: e}}) {
		t.Errorf("%s: %v %v, not %d at %d", textOf(l), m, d, e, at)
	}
}

func modulesAre(t *testing.T, s string, want ...api.Module) {
	t.Helper()
	if m := read(t, tokens(t, s)); !same(m, want) {
		t.Errorf("%q: %+v\nnot %+v", s, m, want)
	}
}

func itemIs(t *testing.T, s string, want api.Item) {
	t.Helper()
	m := read(t, asItem(t, s))
	if len(m) != 1 || len(m[0].Items) != 1 || !same(m[0].Items[0], want) {
		t.Errorf("%q: %+v\nnot %+v", s, m, want)
	}
}

// bodyIs tells the statements of an always.
func bodyIs(t *testing.T, s string, want ...api.Stmt) {
	t.Helper()
	m := read(t, asStmt(t, s))
	if len(m) != 1 || len(m[0].Items) != 1 || m[0].Items[0].Kind != api.ItComb || !same(m[0].Items[0].Body, want) {
		t.Errorf("%q: %+v\nnot %+v", s, m, want)
	}
}

// exprIs tells an expression in short: its sign and place ahead of its parts.
func exprIs(t *testing.T, s, want string) {
	t.Helper()
	m := read(t, asExpr(t, s))
	if got := short(m[0].Items[0].Value); got != want {
		t.Errorf("%q: %s, not %s", s, got, want)
	}
}

func short(x api.Expr) string {
	var parts []string
	for _, k := range x.Kids {
		parts = append(parts, short(k))
	}
	head := "@" + strconv.Itoa(x.At)
	switch x.Op {
	case api.OpNum:
		if n, err := strconv.ParseUint(x.Value, 2, 32); x.Plain && err == nil && len(x.Value) == 32 {
			return strconv.FormatUint(n, 10) + head
		}
		return "'" + x.Value + head
	case api.OpName:
		return x.Name + head
	case api.OpBit, api.OpPart:
		return x.Name + head + "[" + strings.Join(parts, ":") + "]"
	case api.OpCat:
		return "{" + head + " " + strings.Join(parts, " ") + "}"
	case api.OpCond:
		return "(?" + head + " " + strings.Join(parts, " ") + ")"
	}
	ops := unaryOps()
	if len(parts) == 2 {
		ops = binaryOps()
	}
	for sign, op := range ops {
		if op == x.Op {
			return "(" + sign + head + " " + strings.Join(parts, " ") + ")"
		}
	}
	return "no operator"
}

func name(at int, s string) api.Expr {
	return api.Expr{Op: api.OpName, Name: s, At: at}
}

func plain(at int, n uint32) api.Expr {
	return api.Expr{Op: api.OpNum, Value: fmt.Sprintf("%032b", n), Plain: true, At: at}
}

func two(at, op int, a, b api.Expr) api.Expr {
	return api.Expr{Op: op, Kids: []api.Expr{a, b}, At: at}
}

func TestSy1Examples(t *testing.T) {
	modulesAre(t, "module m(input a, output y); assign y = ~a; endmodule", api.Module{Name: "m", Ports: []api.Port{{Name: "a", At: 9}, {Out: true, Name: "y", At: 18}}, Items: []api.Item{
		{Kind: api.ItAssign, Name: "y", Value: api.Expr{Op: api.OpNot, Kids: []api.Expr{name(41, "a")}, At: 40}, At: 29},
	}})
	refusedIs(t, tokens(t, "module m(input a, output y); assign y = ~a endmodule"), 43, api.ErrSyntax)
}

func TestSy1Modules(t *testing.T) {
	modulesAre(t, "module m(); endmodule", api.Module{Name: "m"})
	modulesAre(t, " module\nm(); endmodule module m(); wire w; endmodule\tmodule n(); endmodule\n",
		api.Module{Name: "m", At: 1}, api.Module{Name: "m", At: 23, Items: []api.Item{{Kind: api.ItWire, Names: []string{"w"}, At: 35}}}, api.Module{Name: "n", At: 53})
	modulesAre(t, "module m #(parameter N = 4) (); endmodule", api.Module{Name: "m", Params: []api.Bind{{Name: "N", Value: plain(25, 4), At: 21}}})
	modulesAre(t, "module m #(parameter N = 4, parameter M = N) (input x); endmodule", api.Module{
		Name: "m", Params: []api.Bind{{Name: "N", Value: plain(25, 4), At: 21}, {Name: "M", Value: name(42, "N"), At: 38}}, Ports: []api.Port{{Name: "x", At: 46}},
	})
	// Names of what the language knows nothing of.
	modulesAre(t, "module Module(input modules, output _end); endmodule", api.Module{Name: "Module", Ports: []api.Port{{Name: "modules", At: 14}, {Out: true, Name: "_end", At: 29}}})
}

func TestSy1Ports(t *testing.T) {
	for s, want := range map[string]api.Port{
		"input a":             {Name: "a"},
		"input [3:0] a":       {Name: "a", Ranged: true, Hi: plain(7, 3), Lo: plain(9, 0)},
		"output a":            {Name: "a", Out: true},
		"output [a:b] c":      {Name: "c", Out: true, Ranged: true, Hi: name(8, "a"), Lo: name(10, "b")},
		"output reg a":        {Name: "a", Out: true, Reg: true},
		"output reg [3:0] a":  {Name: "a", Out: true, Reg: true, Ranged: true, Hi: plain(12, 3), Lo: plain(14, 0)},
		" input  [N-1 : 0] a": {Name: "a", At: 1, Ranged: true, Hi: two(10, api.OpSub, name(9, "N"), plain(11, 1)), Lo: plain(15, 0)},
	} {
		m := read(t, within(t, "module m(", s, "); endmodule"))
		if len(m) != 1 || !same(m[0].Ports, []api.Port{want}) {
			t.Errorf("%q: %+v, not %+v", s, m, want)
		}
		m = read(t, within(t, "module m(", "output z,"+s, "); endmodule"))
		if len(m) != 1 || len(m[0].Ports) != 2 || m[0].Ports[0].Name != "z" || m[0].Ports[1].Name != want.Name || m[0].Ports[1].Reg != want.Reg || m[0].Ports[1].At != 9+want.At {
			t.Errorf("%q behind another one: %+v", s, m)
		}
	}
}

func TestSy1Items(t *testing.T) {
	for s, want := range map[string]api.Item{
		"wire a;":              {Kind: api.ItWire, Names: []string{"a"}},
		"wire a, b, a;":        {Kind: api.ItWire, Names: []string{"a", "b", "a"}},
		"wire [3:b] a, b;":     {Kind: api.ItWire, Names: []string{"a", "b"}, Ranged: true, Hi: plain(6, 3), Lo: name(8, "b")},
		"reg a;":               {Kind: api.ItReg, Names: []string{"a"}},
		" reg [1:0] a;":        {Kind: api.ItReg, Names: []string{"a"}, Ranged: true, Hi: plain(6, 1), Lo: plain(8, 0), At: 1},
		"localparam L = 3;":    {Kind: api.ItLocal, Name: "L", Value: plain(15, 3)},
		"assign a = b;":        {Kind: api.ItAssign, Name: "a", Value: name(11, "b")},
		"assign #2 a = b;":     {Kind: api.ItAssign, Name: "a", Value: name(14, "b"), Timed: true, Delay: plain(8, 2)},
		"assign #(c+d) a = b;": {Kind: api.ItAssign, Name: "a", Value: name(18, "b"), Timed: true, Delay: two(10, api.OpAdd, name(9, "c"), name(11, "d"))},
		"assign #c[0] a = b;":  {Kind: api.ItAssign, Name: "a", Value: name(17, "b"), Timed: true, Delay: api.Expr{Op: api.OpBit, Name: "c", Kids: []api.Expr{plain(10, 0)}, At: 8}},
		"assign #{c} a = b;":   {Kind: api.ItAssign, Name: "a", Value: name(16, "b"), Timed: true, Delay: api.Expr{Op: api.OpCat, Kids: []api.Expr{name(9, "c")}, At: 8}},

		"always @(*) begin end":          {Kind: api.ItComb},
		"always @(*) a = b;":             {Kind: api.ItComb, Body: []api.Stmt{{Kind: api.StSet, Target: "a", Value: name(16, "b"), At: 12}}},
		"always @(posedge c) a <= b;":    {Kind: api.ItClock, Name: "c", Body: []api.Stmt{{Kind: api.StDefer, Target: "a", Value: name(25, "b"), At: 20}}},
		"always @(posedge c) begin end":  {Kind: api.ItClock, Name: "c"},
		"sub u();":                       {Kind: api.ItInst, Module: "sub", Name: "u"},
		"  sub u(.a(b), .c(1));":         {Kind: api.ItInst, Module: "sub", Name: "u", Ports: []api.Bind{{Name: "a", Value: name(11, "b"), At: 8}, {Name: "c", Value: plain(18, 1), At: 15}}, At: 2},
		"sub #(.N(3)) u();":              {Kind: api.ItInst, Module: "sub", Name: "u", Params: []api.Bind{{Name: "N", Value: plain(9, 3), At: 6}}},
		"sub #(.N(3),.M(N)) u(.a((b)));": {Kind: api.ItInst, Module: "sub", Name: "u", Params: []api.Bind{{Name: "N", Value: plain(9, 3), At: 6}, {Name: "M", Value: name(15, "N"), At: 12}}, Ports: []api.Bind{{Name: "a", Value: name(25, "b"), At: 21}}},
		"for(i=0;a;i=b) begin : g end":   {Kind: api.ItFor, Name: "g", Var: "i", Value: plain(6, 0), While: name(8, "a"), Next: name(12, "b")},
		"for(i=i;i;i=i) begin:i sub u(); wire w; end": {Kind: api.ItFor, Name: "i", Var: "i", Value: name(6, "i"), While: name(8, "i"), Next: name(12, "i"), Items: []api.Item{
			{Kind: api.ItInst, Module: "sub", Name: "u", At: 23}, {Kind: api.ItWire, Names: []string{"w"}, At: 32},
		}},
		"for(i=0;1;i=2) begin:g for(i=3;4;i=5) begin:h end end": {Kind: api.ItFor, Name: "g", Var: "i", Value: plain(6, 0), While: plain(8, 1), Next: plain(12, 2), Items: []api.Item{
			{Kind: api.ItFor, Name: "h", Var: "i", Value: plain(29, 3), While: plain(31, 4), Next: plain(35, 5), At: 23},
		}},
	} {
		itemIs(t, s, want)
	}
	m := read(t, asItem(t, "wire a; reg b; assign a = b; sub u(); sub v();"))
	var at []int
	for _, x := range m[0].Items {
		at = append(at, x.At)
	}
	if !slices.Equal(at, []int{0, 8, 15, 29, 38}) {
		t.Errorf("items at %v", at)
	}
}

func set(at int, a string, value api.Expr) api.Stmt {
	return api.Stmt{Kind: api.StSet, Target: a, Value: value, At: at}
}

func TestSy1Stmts(t *testing.T) {
	bodyIs(t, "a = b;", set(0, "a", name(4, "b")))
	bodyIs(t, "a <= b;", api.Stmt{Kind: api.StDefer, Target: "a", Value: name(5, "b")})
	bodyIs(t, "a <= b <= c;", api.Stmt{Kind: api.StDefer, Target: "a", Value: two(7, api.OpLe, name(5, "b"), name(10, "c"))})
	bodyIs(t, "begin end")
	bodyIs(t, "begin begin end begin begin end end end")
	bodyIs(t, "begin a = b; begin c = d; end begin e = 1; begin f = 2; end end g = 3; end",
		set(6, "a", name(10, "b")), set(19, "c", name(23, "d")), set(36, "e", plain(40, 1)), set(49, "f", plain(53, 2)), set(64, "g", plain(68, 3)))
	bodyIs(t, "if (a) b = c;", api.Stmt{Kind: api.StIf, Value: name(4, "a"), Body: []api.Stmt{set(7, "b", name(11, "c"))}})
	bodyIs(t, " if (a) b = c; else d = e;", api.Stmt{Kind: api.StIf, Value: name(5, "a"), Body: []api.Stmt{set(8, "b", name(12, "c"))}, Else: []api.Stmt{set(20, "d", name(24, "e"))}, At: 1})
	bodyIs(t, "if (a) begin end else begin end", api.Stmt{Kind: api.StIf, Value: name(4, "a")})
	bodyIs(t, "if ((a)) begin b = c; d = e; end", api.Stmt{Kind: api.StIf, Value: name(5, "a"), Body: []api.Stmt{set(15, "b", name(19, "c")), set(22, "d", name(26, "e"))}})
	bodyIs(t, "if (a) begin end else begin b = c; begin d = e; end end", api.Stmt{Kind: api.StIf, Value: name(4, "a"), Else: []api.Stmt{set(28, "b", name(32, "c")), set(41, "d", name(45, "e"))}})
}

func TestSy1NearestIf(t *testing.T) {
	inner := api.Stmt{Kind: api.StIf, Value: name(11, "b"), Body: []api.Stmt{set(14, "c", plain(18, 1))}, Else: []api.Stmt{set(26, "d", plain(30, 2))}, At: 7}
	bodyIs(t, "if (a) if (b) c = 1; else d = 2;", api.Stmt{Kind: api.StIf, Value: name(4, "a"), Body: []api.Stmt{inner}})
	bodyIs(t, "if (a) if (b) c = 1; else d = 2; else e = 3;", api.Stmt{Kind: api.StIf, Value: name(4, "a"), Body: []api.Stmt{inner}, Else: []api.Stmt{set(38, "e", plain(42, 3))}})
	bodyIs(t, "if (a) begin if (b) c = 1; end else d = 2;", api.Stmt{
		Kind: api.StIf, Value: name(4, "a"), Body: []api.Stmt{{Kind: api.StIf, Value: name(17, "b"), Body: []api.Stmt{set(20, "c", plain(24, 1))}, At: 13}}, Else: []api.Stmt{set(36, "d", plain(40, 2))},
	})
	bodyIs(t, "if (a) b = 1; else if (c) d = 2; else e = 3;", api.Stmt{
		Kind: api.StIf, Value: name(4, "a"), Body: []api.Stmt{set(7, "b", plain(11, 1))},
		Else: []api.Stmt{{Kind: api.StIf, Value: name(23, "c"), Body: []api.Stmt{set(26, "d", plain(30, 2))}, Else: []api.Stmt{set(38, "e", plain(42, 3))}, At: 19}},
	})
	refusedIs(t, asStmt(t, "if (a) b = 1; else c = 2; else"), 26, api.ErrSyntax)
	refusedIs(t, asStmt(t, "if (a) begin if (b) c = 1; end else d = 2; else"), 43, api.ErrSyntax)
	refusedIs(t, asStmt(t, "begin a = b; else"), 13, api.ErrSyntax)
}

func TestSy1Cases(t *testing.T) {
	bodyIs(t, "case (a) endcase", api.Stmt{Kind: api.StCase, Value: name(6, "a")})
	bodyIs(t, "case (a) default: begin end endcase", api.Stmt{Kind: api.StCase, Value: name(6, "a"), Arms: []api.Arm{{Default: true}}})
	bodyIs(t, " case (a) default: b = c; endcase", api.Stmt{Kind: api.StCase, Value: name(7, "a"), Arms: []api.Arm{{Default: true, Body: []api.Stmt{set(19, "b", name(23, "c"))}}}, At: 1})
	bodyIs(t, "case (a) 1: b = c; x: begin d = e; f = 2; end endcase", api.Stmt{Kind: api.StCase, Value: name(6, "a"), Arms: []api.Arm{
		{Label: plain(9, 1), Body: []api.Stmt{set(12, "b", name(16, "c"))}}, {Label: name(19, "x"), Body: []api.Stmt{set(28, "d", name(32, "e")), set(35, "f", plain(39, 2))}},
	}})
	bodyIs(t, "case (a) b ? c : d : e = f; default : g = h; endcase", api.Stmt{Kind: api.StCase, Value: name(6, "a"), Arms: []api.Arm{
		{Label: api.Expr{Op: api.OpCond, Kids: []api.Expr{name(9, "b"), name(13, "c"), name(17, "d")}, At: 11}, Body: []api.Stmt{set(21, "e", name(25, "f"))}},
		{Default: true, Body: []api.Stmt{set(38, "g", name(42, "h"))}},
	}})
	refusedIs(t, asStmt(t, "case (a) default: b = c; default: d = e; endcase"), 25, api.ErrSyntax)
	refusedIs(t, asStmt(t, "case (a) default: b = c; 1: d = e; endcase"), 25, api.ErrSyntax)
	refusedIs(t, asStmt(t, "case (a) 1: endcase"), 12, api.ErrSyntax)
	refusedIs(t, asStmt(t, "case (a) b = c; endcase"), 11, api.ErrSyntax)
	refusedIs(t, asStmt(t, "case (a) b <= c; endcase"), 15, api.ErrSyntax)
	refusedIs(t, asStmt(t, "case (a) end"), 9, api.ErrSyntax)
}

func TestSy1Primaries(t *testing.T) {
	for s, want := range map[string]string{
		"a": "a@0", "  a": "a@2", "_": "_@0", "a[b]": "a@0[b@2]", "a [ 1 ]": "a@0[1@4]", "a[b:c]": "a@0[b@2:c@4]", "a[b[c]:d[1:0]]": "a@0[b@2[c@4]:d@7[1@9:0@11]]", "a[b?c:d]": "a@0[(?@3 b@2 c@4 d@6)]", "a[b?c:d:e]": "a@0[(?@3 b@2 c@4 d@6):e@8]",
		"(a)": "a@1", "((a))": "a@2", "(a[b])": "a@1[b@3]", "{a}": "{@0 a@1}", "{a,b}": "{@0 a@1 b@3}", " { a , b , 1 }": "{@1 a@3 b@7 1@11}", "{{a},{b,c}}": "{@0 {@1 a@2} {@5 b@6 c@8}}", "({a})": "{@1 a@2}", "{(a)}": "{@0 a@2}", "{a+b,c}": "{@0 (+@2 a@1 b@3) c@5}",
		"0": "0@0", "12": "12@0", "4294967295": "4294967295@0", " 4'b01xz": "'01xz@1", "1'b0": "'0@0", "4'bx": "'xxxx@0", "2'h5": "'01@0", "8'hzF": "'zzzz1111@0", "32'd5": "'00000000000000000000000000000101@0", "(7)": "7@1", "{1,2'b10}": "{@0 1@1 '10@3}",
	} {
		exprIs(t, s, want)
	}
}

func TestSy1Unary(t *testing.T) {
	for _, sign := range []string{"~", "!", "-", "&", "|", "^"} {
		exprIs(t, sign+"a", "("+sign+"@0 a@1)")
		exprIs(t, sign+" 1", "("+sign+"@0 1@2)")
		exprIs(t, sign+"(a)", "("+sign+"@0 a@2)")
		exprIs(t, "("+sign+"a)", "("+sign+"@1 a@2)")
		exprIs(t, sign+"(a+b)", "("+sign+"@0 (+@3 a@2 b@4))")
		exprIs(t, sign+"a[1]", "("+sign+"@0 a@1[1@3])")
		exprIs(t, sign+"a?b:c", "(?@2 ("+sign+"@0 a@1) b@3 c@5)")
		for _, inner := range []string{"~", "!", "-", "&", "|", "^"} {
			exprIs(t, sign+" "+inner+"a", "("+sign+"@0 ("+inner+"@2 a@3))")
			if sign != "~" && sign != "!" {
				exprIs(t, "a "+sign+" "+inner+" b", "("+sign+"@2 a@0 ("+inner+"@4 b@6))")
			}
		}
		for between := range binaryOps() {
			exprIs(t, sign+"a "+between+" "+sign+"b", "("+between+"@3 ("+sign+"@0 a@1) ("+sign+"@"+strconv.Itoa(4+len(between))+" b@"+strconv.Itoa(5+len(between))+"))")
		}
	}
	for _, s := range []string{"+a", "*a", "~+a", "? a : b", "= a", "< a", "~", "!", "-", "&", "|", "^"} {
		at := 0
		if s[0] == '~' || len(s) == 1 {
			at = 1
		}
		refusedIs(t, asExpr(t, s), at, api.ErrSyntax)
	}
}

// Each pair of signs: the one that binds more tightly is the inner one, and of two of one level the first.
func TestSy1Levels(t *testing.T) {
	for i, loose := range levels() {
		for _, a := range loose {
			for j, tight := range levels() {
				for _, b := range tight {
					s := "x " + a + " y " + b + " z"
					p, q := "@2 ", "@"+strconv.Itoa(5+len(a))+" "
					y, z := "y@"+strconv.Itoa(3+len(a)), "z@"+strconv.Itoa(6+len(a)+len(b))
					want := "(" + b + q + "(" + a + p + "x@0 " + y + ") " + z + ")"
					if i < j {
						want = "(" + a + p + "x@0 (" + b + q + y + " " + z + "))"
					}
					exprIs(t, s, want)
				}
			}
		}
	}
	exprIs(t, "a-b-c-d", "(-@5 (-@3 (-@1 a@0 b@2) c@4) d@6)")
	exprIs(t, "a-(b-c)-d", "(-@7 (-@1 a@0 (-@4 b@3 c@5)) d@8)")
	exprIs(t, "a-(b-(c-d))", "(-@1 a@0 (-@4 b@3 (-@7 c@6 d@8)))")
	exprIs(t, "(a|b)&c", "(&@5 (|@2 a@1 b@3) c@6)")
	exprIs(t, "a|b^c&d==e<f<<g+h", "(|@1 a@0 (^@3 b@2 (&@5 c@4 (==@7 d@6 (<@10 e@9 (<<@12 f@11 (+@15 g@14 h@16)))))))")
	exprIs(t, "a+b<<c<d==e&f^g|h", "(|@15 (^@13 (&@11 (==@8 (<@6 (<<@3 (+@1 a@0 b@2) c@5) d@7) e@10) f@12) g@14) h@16)")
	exprIs(t, "a||b&&c|d", "(||@1 a@0 (&&@4 b@3 (|@7 c@6 d@8)))")
	exprIs(t, "a|b&&c||d", "(||@6 (&&@3 (|@1 a@0 b@2) c@5) d@8)")
}

func TestSy1Conditions(t *testing.T) {
	exprIs(t, "a?b:c", "(?@1 a@0 b@2 c@4)")
	exprIs(t, "a?b:c?d:e", "(?@1 a@0 b@2 (?@5 c@4 d@6 e@8))")
	exprIs(t, "a?b?c:d:e", "(?@1 a@0 (?@3 b@2 c@4 d@6) e@8)")
	exprIs(t, "(a?b:c)?d:e", "(?@7 (?@2 a@1 b@3 c@5) d@8 e@10)")
	exprIs(t, "a?b:(c?d:e)", "(?@1 a@0 b@2 (?@6 c@5 d@7 e@9))")
	exprIs(t, "a?b?c:d:e?f:g", "(?@1 a@0 (?@3 b@2 c@4 d@6) (?@9 e@8 f@10 g@12))")
	for sign := range binaryOps() {
		n := len(sign) + 2
		exprIs(t, "a"+sign+" b?c"+sign+" d:e"+sign+" f", fmt.Sprintf("(?@%d (%s@1 a@0 b@%d) (%s@%d c@%d d@%d) (%s@%d e@%d f@%d))", n+1, sign, n, sign, n+3, n+2, 2*n+2, sign, 2*n+5, 2*n+4, 3*n+4))
	}
	for s, at := range map[string]int{"a ? b": 5, "a ? : b": 4, "a ? b : ": 8, "a ? b ? c : d": 13, "a ? b : c : d": 10, "a : b": 2, "(a ? b) : c": 6} {
		refusedIs(t, asExpr(t, s), at, api.ErrSyntax)
	}
}

func TestSy1WordsAreNoNames(t *testing.T) {
	holes := []string{
		"module ?(); endmodule", "module m #(parameter ? = 1)(); endmodule", "module m(input ?); endmodule", "module m(output [1:0] ?); endmodule", "module m(output reg ?); endmodule", "module m(); wire ?; endmodule", "module m(); reg a, ?; endmodule", "module m(); localparam ? = 1; endmodule", "module m(); assign ? = 1; endmodule",
		"module m(); assign #1 ? = 1; endmodule", "module m(); assign a = ?; endmodule", "module m(); assign a = b + ?[1]; endmodule", "module m(); always @(posedge ?) a <= b; endmodule", "module m(); always @(*) begin ? = b; end endmodule", "module m(); ? u(); endmodule", "module m(); sub ?(); endmodule", "module m(); sub #(.?(1)) u(); endmodule",
		"module m(); sub u(.?(1)); endmodule", "module m(); for (? = 0; 1; ? = 1) begin : g end endmodule", "module m(); for (i = 0; 1; i = 1) begin : ? end endmodule",
	}
	words := strings.Fields(languageWords)
	if len(words) != 19 {
		t.Fatal(words)
	}
	for _, hole := range holes {
		at := strings.IndexByte(hole, '?')
		read(t, tokens(t, strings.ReplaceAll(hole, "?", "n")))
		for _, w := range words {
			l := tokens(t, strings.ReplaceAll(hole, "?", w))
			m, d := syntax.Parse(l)
			want := wantReason(l)
			if len(want) != 1 || want[0].At < at || len(m) != 0 || !slices.Equal(d, want) {
				t.Errorf("%q, %s: %v %v, not %v", hole, w, m, d, want)
			}
			if w != "reg" && !strings.Contains(hole, "begin ?") && !strings.Contains(hole, "; ? u") && want[0].At != at {
				t.Errorf("%q, %s: not at its place", hole, w)
			}
		}
		// What only looks like one is a name.
		for _, n := range []string{"Module", "modules", "endmodul", "forr", "IF", "_end", "end_", "integer", "negedge", "initial"} {
			read(t, tokens(t, strings.ReplaceAll(hole, "?", n)))
		}
	}
}

func TestSy1ForNames(t *testing.T) {
	refusedIs(t, asItem(t, "for(i=0;i;j=1) begin : g end"), 10, api.ErrSyntax)
	refusedIs(t, asItem(t, "for(i=0;i;I=1) begin : g end"), 10, api.ErrSyntax)
	refusedIs(t, asItem(t, "for(i=0;i;ii=1) begin : g end"), 10, api.ErrSyntax)
	refusedIs(t, asItem(t, "for(ii=0;i;i=1) begin : g end"), 11, api.ErrSyntax)
	refusedIs(t, asItem(t, "for(i=0;i;end=1) begin : g end"), 10, api.ErrSyntax)
	refusedIs(t, asItem(t, "for(end=0;i;end=1) begin : g end"), 4, api.ErrSyntax)
	refusedIs(t, asItem(t, "for(i=0;i;1=1) begin : g end"), 10, api.ErrSyntax)
	refusedIs(t, asItem(t, "for(i=0;i;i=1) begin : g for(j=0;j;i=1)"), 35, api.ErrSyntax)
	itemIs(t, "for(j=0;i;j=k) begin : l end", api.Item{Kind: api.ItFor, Name: "l", Var: "j", Value: plain(6, 0), While: name(8, "i"), Next: name(12, "k")})
}

func TestSy1Faults(t *testing.T) {
	for _, x := range []struct {
		s  string
		at int
	}{
		{"", 0}, {"  \n", 3}, {"x", 0}, {"1", 0}, {";", 0}, {"endmodule", 0}, {"wire a;", 0}, {"module", 6}, {"module m", 8}, {"module m;", 8}, {"module m()", 10}, {"module m();", 11}, {"module m() endmodule", 11}, {"module m(); endmodule;", 21}, {"module m(); endmodule x", 22}, {"module m(); endmodule module", 28},
		{"module m(); module n(); endmodule endmodule", 12}, {"module 1(); endmodule", 7}, {"module m(a); endmodule", 9}, {"module m(input a,); endmodule", 17}, {"module m(input a b); endmodule", 17}, {"module m(input a, b); endmodule", 18}, {"module m(input reg a); endmodule", 15}, {"module m(output [3] a); endmodule", 18},
		{"module m(reg output a); endmodule", 9}, {"module m(output [3:0] reg a); endmodule", 22}, {"module m(input [3:0] [3:0] a); endmodule", 21}, {"module m(input a[3:0]); endmodule", 16}, {"module m #() (); endmodule", 11}, {"module m #(N = 1) (); endmodule", 11}, {"module m #(parameter N) (); endmodule", 22}, {"module m #(parameter N = 1, M = 2) (); endmodule", 28},
		{"module m # parameter N = 1 (); endmodule", 11}, {"module m(); wire; endmodule", 16}, {"module m(); wire a b; endmodule", 19}, {"module m(); wire a,; endmodule", 19}, {"module m(); wire a = b; endmodule", 19}, {"module m(); wire [3:0]; endmodule", 22}, {"module m(); wire a[3:0]; endmodule", 18}, {"module m(); wire reg a; endmodule", 17},
		{"module m(); localparam [3:0] a = 1; endmodule", 23}, {"module m(); localparam a; endmodule", 24}, {"module m(); localparam a = 1, b = 2; endmodule", 28}, {"module m(); parameter a = 1; endmodule", 12}, {"module m(); input a; endmodule", 12}, {"module m(); assign a <= b; endmodule", 21}, {"module m(); assign a[1] = b; endmodule", 20}, {"module m(); assign #-1 a = b; endmodule", 20},
		{"module m(); assign # a = b; endmodule", 23}, {"module m(); assign #1+1 a = b; endmodule", 21}, {"module m(); assign #a[1][2] b = c; endmodule", 24}, {"module m(); assign a = b, c = d; endmodule", 24}, {"module m(); assign a b; endmodule", 21}, {"module m(); always a = b; endmodule", 19}, {"module m(); always @* a = b; endmodule", 20}, {"module m(); always @() a = b; endmodule", 21},
		{"module m(); always @(a) a = b; endmodule", 21}, {"module m(); always @(posedge a, posedge b) c <= d; endmodule", 30}, {"module m(); always @(posedge a[1]) c <= d; endmodule", 30}, {"module m(); always @(*); endmodule", 23}, {"module m(); always @(*) endmodule", 24}, {"module m(); a; endmodule", 13}, {"module m(); a = b; endmodule", 14}, {"module m(); a b; endmodule", 15}, {"module m(); a b(c); endmodule", 16},
		{"module m(); a b(.c); endmodule", 18}, {"module m(); a b(.c()); endmodule", 19}, {"module m(); a b(.c(d),); endmodule", 22}, {"module m(); a b(.c(d) .e(f)); endmodule", 22}, {"module m(); a #() b(); endmodule", 16}, {"module m(); a #(1) b(); endmodule", 16}, {"module m(); a #1 b(); endmodule", 15}, {"module m(); a b() c(); endmodule", 18}, {"module m(); a b(), c(); endmodule", 17},
		{"module m(); if (a) b = c; endmodule", 12}, {"module m(); begin end endmodule", 12}, {"module m(); case (a) endcase endmodule", 12}, {"module m(); end endmodule", 12}, {"module m(); ; endmodule", 12}, {"module m(); for (i = 0; 1; i = 1) begin end endmodule", 40}, {"module m(); for (i = 0; 1; i = 1) wire a; endmodule", 34}, {"module m(); for (i = 0; 1; i = 1) begin : g endmodule", 44},
		{"module m(); for (i = 0; 1; i) begin : g end endmodule", 28}, {"module m(); for (i = 0, 1; i = 1) begin : g end endmodule", 22}, {"module m(); for (i <= 0; 1; i = 1) begin : g end endmodule", 19}, {"module m(); for (i = 0; 1; i = 1) begin : g a = b; end endmodule", 46},
	} {
		refusedIs(t, tokens(t, x.s), x.at, api.ErrSyntax)
		refusedIs(t, tokens(t, "module o(); endmodule "+x.s+" module ;"), faultBehind(t, x.s, x.at), api.ErrSyntax)
	}
}

// faultBehind is where a source is wrong that stands behind another one, and ahead of a fault: what was its end no longer is.
func faultBehind(t *testing.T, s string, at int) int {
	t.Helper()
	const before = len("module o(); endmodule ")
	if at < len(s) {
		return before + at
	}
	d := wantReason(tokens(t, "module o(); endmodule "+s+" module ;"))
	if len(d) != 1 || d[0].At < before+at {
		t.Errorf("%q: %v", s, d)
	}
	return d[0].At
}

func TestSy1FaultsInStmts(t *testing.T) {
	for s, at := range map[string]int{
		"a;": 1, "a b;": 2, "a = ;": 4, "a = b": 5, "a == b;": 2, "a < = b;": 2, "a[1] = b;": 1, "{a} = b;": 0, "1 = b;": 0, "(a) = b;": 0, "if a b = c;": 3, "if () b = c;": 4, "if (a b = c;": 6, "if (a) ; ": 7, "if (a) else b = c;": 7, "if (a) b = c else d = e;": 13, "else a = b;": 0, "begin": 5, "begin a = b;": 12, "begin a = b end": 12, "begin ; end": 6,
		"begin wire a; end": 6, "begin : g end": 6, "end": 0, "case a endcase": 5, "case (a) b: endcase": 12, "case (a) : b = c; endcase": 9, "case (a) b, c: d = e; endcase": 10, "case (a) default b = c; endcase": 17, "case (a) default: endcase": 18, "case (a) b: c = d;": 18, "case (a) begin end endcase": 9, "case (a) endmodule": 9, "wire a;": 0, "for (i = 0; 1; i = 1) begin : g end": 0, "a = b; c = d;": 9,
		"assign a = b;": 0, "a = b ? c;": 9, "a <= <= b;": 5, "a = = b;": 4,
	} {
		refusedIs(t, asStmt(t, s), at, api.ErrSyntax)
	}
}

func TestSy1FaultsInExprs(t *testing.T) {
	for s, at := range map[string]int{
		"": 0, "a b": 2, "a 1": 2, "1 a": 2, "1 2": 2, "a +": 3, "a + + b": 4, "a + * b": 4, "a * b": 2, "a = b": 2, "a !": 2, "a ~ b": 2, "(": 1, ")": 0, "()": 1, "(a": 2, "a)": 1, "(a b)": 3, "(a,b)": 2, "(a]": 2, "{": 1, "{}": 1, "{a": 2, "{a,}": 3, "{,a}": 1, "{a b}": 3, "{a;b}": 2, "{2{a}}": 2, "a[": 2, "a[]": 2, "a[1": 3, "a[1:]": 4, "a[:1]": 2, "a[1:2:3]": 5, "a[1][2]": 4, "a[1,2]": 3, "(a)[1]": 3,
		"1[1]": 1, "{a}[1]": 3, "a.b": 1, "a(b)": 1, "a()": 1, "#1": 0, "@a": 0, ".a": 0, "a == = b": 5, "a && && b": 5, "a || || b": 5, "a & && b": 4, "a ? b : c ? d": 13, "a < > b": 4, "a << << b": 5, "module": 0, "~ ~": 3, "~)": 1, "posedge a": 0,
	} {
		refusedIs(t, asExpr(t, s), at, api.ErrSyntax)
	}
	// What looks like a fault, and is none.
	exprIs(t, "a & & b", "(&@2 a@0 (&@4 b@6))")
	exprIs(t, "a && & b", "(&&@2 a@0 (&@5 b@7))")
	exprIs(t, "a | |b", "(|@2 a@0 (|@4 b@5))")
	exprIs(t, "a - - b", "(-@2 a@0 (-@4 b@6))")
	exprIs(t, "a ^~b", "(^@2 a@0 (~@3 b@4))")
}

// The first fault that is met counts.
func TestSy1FirstFault(t *testing.T) {
	refusedIs(t, tokens(t, "module m(; wire; endmodule )"), 9, api.ErrSyntax)
	refusedIs(t, tokens(t, "module m(); wire a; wire; assign = ; endmodule"), 24, api.ErrSyntax)
	refusedIs(t, tokens(t, "module m(); assign a = (b; endmodule module ("), 25, api.ErrSyntax)
	refusedIs(t, tokens(t, "module m(); for (i = 0 1; j = 1) begin end"), 23, api.ErrSyntax)
}

// Tokens of layer 3 have places of uses: several of them one place.
func TestSy1BehindDirectives(t *testing.T) {
	l, d := pre.Run(tokens(t, "`define M module m();\n`define E a + 1\n`M assign y = `E; endmodule"))
	if len(d) != 0 {
		t.Fatal(d)
	}
	m := read(t, l)
	want := []api.Module{{Name: "m", At: 38, Items: []api.Item{{Kind: api.ItAssign, Name: "y", Value: two(52, api.OpAdd, name(52, "a"), plain(52, 1)), At: 41}}}}
	if !same(m, want) {
		t.Errorf("%+v, not %+v", m, want)
	}
	l, _ = pre.Run(tokens(t, "`define M module m(;\n`M endmodule"))
	refusedIs(t, l, 21, api.ErrSyntax)
}

// Trees that were made up ahead of their tokens.
func TestSy1MadeUpTrees(t *testing.T) {
	d := dice(11)
	for i := range 4000 {
		want, l := writeSource(&d, 10+i%150)
		if got, why := syntax.Parse(l); len(why) != 0 || !same(got, want) {
			t.Fatalf("%s: %v\n%+v\nnot\n%+v", textOf(l), why, got, want)
		}
		if why := wantReason(l); len(why) != 0 {
			t.Fatalf("%s: the chapter's words refuse it: %v", textOf(l), why)
		}
	}
}

// reasonIs holds an answer against the chapter's words.
func reasonIs(t *testing.T, l []api.Token) {
	t.Helper()
	behindIs(t, newWays(), nil, l)
}

// behindIs does so for tokens behind others that the ways went on with already.
func behindIs(t *testing.T, w ways, ahead []api.Token, tail ...[]api.Token) {
	t.Helper()
	rest := slices.Concat(tail...)
	l := slices.Concat(ahead, rest)
	m, d := syntax.Parse(l)
	want := w.reason(rest)
	if !slices.Equal(d, want) || (len(m) == 0) != (len(want) == 1) {
		t.Fatalf("%s: %v %v, not %v", textOf(l), m, d, want)
	}
}

// At each place of the grammar each token, one more, one less, and the end.
func TestSy1EachTokenAtEachPlace(t *testing.T) {
	for _, s := range corpus() {
		l := tokens(t, s)
		reasonIs(t, l)
		w := newWays()
		for i, here := range l[:len(l)-1] {
			ahead := l[:i]
			for _, x := range alphabet() {
				x.At = here.At
				behindIs(t, w, ahead, []api.Token{x}, l[i+1:])
				behindIs(t, w, ahead, []api.Token{x}, l[i:])
			}
			behindIs(t, w, ahead, []api.Token{{Kind: api.TokEnd, At: here.At}})
			behindIs(t, w, ahead, l[i+1:])
			w.reason(l[i : i+1])
		}
		for _, x := range alphabet() {
			x.At = len(s)
			behindIs(t, w, l[:len(l)-1], []api.Token{x}, l[len(l)-1:])
		}
	}
}

// smallLists goes on from some tokens with each list of up to so many words, as long as one could follow the other, each with each word and the end behind it.
func smallLists(t *testing.T, w ways, ahead []api.Token, words []string, most int) {
	t.Helper()
	for _, s := range words {
		x := tokens(t, s)[:1]
		x[0].At = len(ahead)
		behindIs(t, w, ahead, x, []api.Token{{Kind: api.TokEnd, At: len(ahead) + 1}})
		next := w
		if most > 1 && len(next.reason(x)) == 0 {
			smallLists(t, next, append(slices.Clip(ahead), x...), words, most-1)
		}
	}
}

func TestSy1SmallLists(t *testing.T) {
	for before, words := range map[string]string{
		"module m ( ) ; assign y =":        "a 1 ( ) [ ] { } , ~ - ? : + < ;",
		"module m ( ) ; always @ ( * )":    "a = ; <= if else ( ) begin end case endcase default : endmodule",
		"module m ( ) ;":                   "wire reg localparam assign always @ * posedge # a = ; ( ) , begin end for endmodule",
		"module m ( ) ; for ( a = 1 ; 1 ;": "a = 1 ) begin : end wire ; endmodule",
		"":                                 "module endmodule a ( ) ; # parameter = input output reg [ 1 : ] ,",
	} {
		w := newWays()
		ahead := tokens(t, before)
		ahead = ahead[:len(ahead)-1]
		w.reason(ahead)
		most := 8
		if strings.HasSuffix(before, "y =") {
			most = 6 // many more can follow one another there
		}
		smallLists(t, w, ahead, strings.Fields(words), most)
	}
}

func TestSy1SpoiltSources(t *testing.T) {
	d := dice(29)
	kept := 0
	for i := range 6000 {
		_, l := writeSource(&d, 10+i%100)
		l = d.spoilt(l)
		reasonIs(t, l)
		if m, _ := syntax.Parse(l); len(m) > 0 {
			kept++
		}
	}
	if kept < 300 || kept > 3000 {
		t.Errorf("%d spoilt sources are taken", kept)
	}
}
