package printer_test

import (
	"fmt"
	"silkworm/api"
	"silkworm/lexer"
	"silkworm/printer"
	"silkworm/syntax"
	"slices"
	"strings"
	"testing"
)

// modulesOf is the modules of a source that is none's fault.
func modulesOf(t *testing.T, source string) []api.Module {
	t.Helper()
	l, why := lexer.Lex(source)
	if len(why) > 0 {
		t.Fatalf("%.200q: %v", source, why)
	}
	m, why := syntax.Parse(l)
	if len(why) > 0 {
		t.Fatalf("%.200q: %v", source, why)
	}
	return m
}

// printIs tells a source's text, and a refusal where that is empty.
func printIs(t *testing.T, source, want string) {
	t.Helper()
	treeIs(t, modulesOf(t, source), want)
}

func treeIs(t *testing.T, m []api.Module, want string) {
	t.Helper()
	e := api.OK
	if want == "" {
		e = api.ErrArg
	}
	if s, got := printer.Print(m); s != want || got != e {
		t.Errorf("%.300q %d, not %.300q %d", s, got, want, e)
	}
}

func itemIs(t *testing.T, source, want string) {
	t.Helper()
	printIs(t, "module m();"+source+" endmodule", "module m ( ) ;\n"+want+"endmodule\n")
}

func bodyIs(t *testing.T, source, want string) {
	t.Helper()
	itemIs(t, "always @(*)"+source, "always @ ( * ) begin\n"+want+"end\n")
}

func exprOf(t *testing.T, source string) api.Expr {
	t.Helper()
	return modulesOf(t, "module m(); assign y = "+source+"; endmodule")[0].Items[0].Value
}

// exprIs tells an expression's text, and a refusal where that is empty.
func exprIs(t *testing.T, x api.Expr, want string) {
	t.Helper()
	e := api.OK
	if want == "" {
		e = api.ErrArg
	}
	if s, got := printer.Expr(x); s != want || got != e {
		t.Errorf("%.300q %d, not %.300q %d", s, got, want, e)
	}
}

func sourceIs(t *testing.T, source, want string) {
	t.Helper()
	exprIs(t, exprOf(t, source), want)
}

func name(s string) api.Expr {
	return api.Expr{Op: api.OpName, Name: s}
}

func plain(n uint32) api.Expr {
	return api.Expr{Op: api.OpNum, Value: fmt.Sprintf("%032b", n), Plain: true}
}

func node(op int, kids ...api.Expr) api.Expr {
	return api.Expr{Op: op, Kids: kids}
}

func oneItem(x api.Item) []api.Module {
	return []api.Module{{Name: "m", Items: []api.Item{x}}}
}

func TestPt1Examples(t *testing.T) {
	sourceIs(t, "a + (b - c)", "a + ( b - c ) ")
	sourceIs(t, "(a + b) - c", "a + b - c ")
	sourceIs(t, "~(~a)", "~ ~ a ")
	exprIs(t, node(api.OpAdd, name("a"), node(api.OpSub, name("b"), name("c"))), "a + ( b - c ) ")
	exprIs(t, node(api.OpNot, api.Expr{Op: api.OpNum, Value: "1x"}), "~ 2'b1x ")
}

func TestPt1Modules(t *testing.T) {
	printIs(t, "module m(); endmodule", "module m ( ) ;\nendmodule\n")
	printIs(t, "module m(); endmodule module n(); endmodule", "module m ( ) ;\nendmodule\nmodule n ( ) ;\nendmodule\n")
	printIs(t, "module m #(parameter N = 1) (); endmodule", "module m # ( parameter N = 1 ) ( ) ;\nendmodule\n")
	printIs(t, "module m #(parameter N = (1), parameter M = N + 1) (input a); endmodule", "module m # ( parameter N = 1 , parameter M = N + 1 ) ( input a ) ;\nendmodule\n")
	printIs(t, "module m(input a, output b, output reg c); endmodule", "module m ( input a , output b , output reg c ) ;\nendmodule\n")
	printIs(t, "module m(input [1:0] a, output [b ? c : d : e ? f : g] b, output reg [(N):(M - 1)] c); endmodule", "module m ( input [ 1 : 0 ] a , output [ b ? c : d : e ? f : g ] b , output reg [ N : M - 1 ] c ) ;\nendmodule\n")
	treeIs(t, []api.Module{{Name: "m", Params: []api.Bind{{Name: "N", Value: plain(3)}}, Ports: []api.Port{{Name: "a"}, {Out: true, Reg: true, Ranged: true, Hi: plain(7), Lo: plain(0), Name: "b"}}}},
		"module m # ( parameter N = 3 ) ( input a , output reg [ 7 : 0 ] b ) ;\nendmodule\n")
}

func TestPt1Items(t *testing.T) {
	itemIs(t, "wire a;", "wire a ;\n")
	itemIs(t, "wire [3:0] a, b, c; reg d; reg [N:(M)] e, f;", "wire [ 3 : 0 ] a , b , c ;\nreg d ;\nreg [ N : M ] e , f ;\n")
	itemIs(t, "localparam L = (3);", "localparam L = 3 ;\n")
	itemIs(t, "assign a = b;", "assign a = b ;\n")
	itemIs(t, "always @(*) a = b;", "always @ ( * ) begin\na = b ;\nend\n")
	itemIs(t, "always @(posedge c) a <= b;", "always @ ( posedge c ) begin\na <= b ;\nend\n")
	itemIs(t, "sub u (); sub v (.a(b)); sub w (.a((b)), .c(d + 1));", "sub u ( ) ;\nsub v ( . a ( b ) ) ;\nsub w ( . a ( b ) , . c ( d + 1 ) ) ;\n")
	itemIs(t, "sub #(.N(3)) u (); sub #(.N(a ? 1 : 2), .M(4)) v (.a(b));", "sub # ( . N ( 3 ) ) u ( ) ;\nsub # ( . N ( a ? 1 : 2 ) , . M ( 4 ) ) v ( . a ( b ) ) ;\n")
	itemIs(t, "for (i = 0; i < 4; i = i + 1) begin : g end", "for ( i = 0 ; i < 4 ; i = i + 1 ) begin : g\nend\n")
	itemIs(t, "for (i = 0; i < 4; i = i + 1) begin : g wire a; for (j = i; j; j = j - 1) begin : h sub u (); end always @(*) a = b; end wire c;",
		"for ( i = 0 ; i < 4 ; i = i + 1 ) begin : g\nwire a ;\nfor ( j = i ; j ; j = j - 1 ) begin : h\nsub u ( ) ;\nend\nalways @ ( * ) begin\na = b ;\nend\nend\nwire c ;\n")
	treeIs(t, oneItem(api.Item{Kind: api.ItFor, Name: "g", Var: "i", Value: plain(0), While: name("i"), Next: name("j"), Items: []api.Item{{Kind: api.ItReg, Names: []string{"r"}}}}),
		"module m ( ) ;\nfor ( i = 0 ; i ; i = j ) begin : g\nreg r ;\nend\nendmodule\n")
	treeIs(t, oneItem(api.Item{Kind: api.ItInst, Name: "u", Module: "s", Params: []api.Bind{{Name: "N", Value: plain(3)}}, Ports: []api.Bind{{Name: "a", Value: name("b")}}}),
		"module m ( ) ;\ns # ( . N ( 3 ) ) u ( . a ( b ) ) ;\nendmodule\n")
	treeIs(t, oneItem(api.Item{Kind: api.ItClock, Name: "c", Body: []api.Stmt{{Kind: api.StDefer, Target: "q", Value: name("d")}}}),
		"module m ( ) ;\nalways @ ( posedge c ) begin\nq <= d ;\nend\nendmodule\n")
}

// A delay is a primary: brackets stand around what is none.
func TestPt1Delays(t *testing.T) {
	for source, text := range map[string]string{
		"#2": "# 2", "#(2)": "# 2", "#N": "# N", "#((N))": "# N", "#N[1]": "# N [ 1 ]", "#(N[1:0])": "# N [ 1 : 0 ]", "#{a, b}": "# { a , b }", "#4'b1x0z": "# 4'b1x0z",
		"#(N + 1)": "# ( N + 1 )", "#(-N)": "# ( - N )", "#(a ? b : c)": "# ( a ? b : c )", "#(~(a + b))": "# ( ~ ( a + b ) )",
	} {
		itemIs(t, "assign "+source+" y = a;", "assign "+text+" y = a ;\n")
	}
}

func TestPt1Statements(t *testing.T) {
	bodyIs(t, "begin end", "")
	bodyIs(t, "begin begin end begin begin end end end", "")
	bodyIs(t, "begin a = b; begin c <= d; end begin begin e = f; end g = h; end end", "a = b ;\nc <= d ;\ne = f ;\ng = h ;\n")
	bodyIs(t, "a <= b <= c;", "a <= b <= c ;\n")
	bodyIs(t, "if (a) b = c;", "if ( a ) begin\nb = c ;\nend\n")
	bodyIs(t, "if ((a)) begin end", "if ( a ) begin\nend\n")
	bodyIs(t, "if (a) begin b = c; d = e; end", "if ( a ) begin\nb = c ;\nd = e ;\nend\n")
	bodyIs(t, "if (a) b = c; else d = e;", "if ( a ) begin\nb = c ;\nend\nelse begin\nd = e ;\nend\n")
	bodyIs(t, "if (a) b = c; else begin end", "if ( a ) begin\nb = c ;\nend\n")
	bodyIs(t, "if (a) begin end else begin begin end d = e; f = g; end", "if ( a ) begin\nend\nelse begin\nd = e ;\nf = g ;\nend\n")
	bodyIs(t, "if (a) if (b) c = d; else e = f;", "if ( a ) begin\nif ( b ) begin\nc = d ;\nend\nelse begin\ne = f ;\nend\nend\n")
	bodyIs(t, "if (a) begin if (b) c = d; end else e = f;", "if ( a ) begin\nif ( b ) begin\nc = d ;\nend\nend\nelse begin\ne = f ;\nend\n")
	bodyIs(t, "if (a) b = c; else if (d) e = f; else g = h;", "if ( a ) begin\nb = c ;\nend\nelse begin\nif ( d ) begin\ne = f ;\nend\nelse begin\ng = h ;\nend\nend\n")
	bodyIs(t, "case (a) endcase", "case ( a ) endcase\n")
	bodyIs(t, "case (a) default: b = c; endcase", "case ( a ) default : begin\nb = c ;\nend\nendcase\n")
	bodyIs(t, "case (a) 1: b = c; 2'b1x: begin end a ? b : c: begin d = e; f = g; end default: begin end endcase",
		"case ( a ) 1 : begin\nb = c ;\nend\n2'b1x : begin\nend\na ? b : c : begin\nd = e ;\nf = g ;\nend\ndefault : begin\nend\nendcase\n")
	bodyIs(t, "case (a + b) 1: case (c) endcase endcase", "case ( a + b ) 1 : begin\ncase ( c ) endcase\nend\nendcase\n")
	treeIs(t, oneItem(api.Item{Kind: api.ItComb, Body: []api.Stmt{{Kind: api.StIf, Value: name("a"), Else: []api.Stmt{{Kind: api.StSet, Target: "b", Value: name("c")}}}}}),
		"module m ( ) ;\nalways @ ( * ) begin\nif ( a ) begin\nend\nelse begin\nb = c ;\nend\nend\nendmodule\n")
}

// Where a newline stands is told by the for around it, not by one ahead of it.
func TestPt1NewlinesBehindAFor(t *testing.T) {
	head := "for ( i = 0 ; 1 ; i = 1 ) begin : g\n"
	itemIs(t, "for (i = 0; 1; i = 1) begin : g wire a; end always @(*) begin a = b; if (a) c = d; end", head+"wire a ;\nend\nalways @ ( * ) begin\na = b ;\nif ( a ) begin\nc = d ;\nend\nend\n")
	itemIs(t, "for (i = 0; 1; i = 1) begin : g for (i = 0; 1; i = 1) begin : g end end for (i = 0; 1; i = 1) begin : g end wire a;", head+head+"end\nend\n"+head+"end\nwire a ;\n")
	printIs(t, "module m(); for (i = 0; 1; i = 1) begin : g end endmodule module n(); endmodule", "module m ( ) ;\n"+head+"end\nendmodule\nmodule n ( ) ;\nendmodule\n")
}

func TestPt1Numbers(t *testing.T) {
	for source, text := range map[string]string{
		"0": "0 ", "7": "7 ", "10": "10 ", "4294967295": "4294967295 ", "2147483648": "2147483648 ",
		"1'b0": "1'b0 ", "1'bx": "1'bx ", "4'b01xz": "4'b01xz ", "4'bz": "4'bzzzz ", "4'b1": "4'b0001 ", "8'hzF": "8'bzzzz1111 ", "3'd5": "3'b101 ", "2'h5": "2'b01 ",
		"32'd5": "32'b00000000000000000000000000000101 ", "32'd0": "32'b00000000000000000000000000000000 ",
		"256'b1": "256'b" + strings.Repeat("0", 255) + "1 ", "33'hx": "33'b" + strings.Repeat("x", 33) + " ",
	} {
		sourceIs(t, source, text)
	}
	exprIs(t, plain(12), "12 ")
	exprIs(t, api.Expr{Op: api.OpNum, Value: fmt.Sprintf("%032b", 12)}, "32'b00000000000000000000000000001100 ")
}

func TestPt1Primaries(t *testing.T) {
	sourceIs(t, "((a))", "a ")
	sourceIs(t, "a[1]", "a [ 1 ] ")
	sourceIs(t, "a[(b ? c : d)]", "a [ b ? c : d ] ")
	sourceIs(t, "a[b + 1:0]", "a [ b + 1 : 0 ] ")
	sourceIs(t, "a[(b ? c : d):(e ? f : g)]", "a [ b ? c : d : e ? f : g ] ")
	sourceIs(t, "{a}", "{ a } ")
	sourceIs(t, "{(a), (b + c), {d, (e ? f : g)}}", "{ a , b + c , { d , e ? f : g } } ")
}

// levels is the binary signs, by how tightly they bind, the loosest first.
func levels() [][]string {
	return [][]string{{"||"}, {"&&"}, {"|"}, {"^"}, {"&"}, {"==", "!="}, {"<", "<=", ">", ">="}, {"<<", ">>"}, {"+", "-"}}
}

func levelOf(sign string) int {
	return slices.IndexFunc(levels(), func(l []string) bool { return slices.Contains(l, sign) })
}

// kind is an expression by its text, and how it binds: "" nothing is read into it, "unary", "cond", or its binary sign.
type kind struct {
	x    api.Expr
	text string
	how  string
}

// kinds is one of each operator.
func kinds() []kind {
	list := []kind{
		{name("a"), "a ", ""}, {plain(3), "3 ", ""}, {api.Expr{Op: api.OpNum, Value: "1z"}, "2'b1z ", ""},
		{api.Expr{Op: api.OpBit, Name: "a", Kids: []api.Expr{name("b")}}, "a [ b ] ", ""},
		{api.Expr{Op: api.OpPart, Name: "a", Kids: []api.Expr{name("b"), name("c")}}, "a [ b : c ] ", ""},
		{node(api.OpCat, name("a"), name("b")), "{ a , b } ", ""},
		{node(api.OpCond, name("a"), name("b"), name("c")), "a ? b : c ", "cond"},
	}
	for i, sign := range unarySigns() {
		list = append(list, kind{node(api.OpNot+i, name("a")), sign + " a ", "unary"})
	}
	for i, sign := range binarySigns() {
		list = append(list, kind{node(api.OpAdd+i, name("a"), name("b")), "a " + sign + " b ", sign})
	}
	return list
}

// Each operator as each part of each operator.
func TestPt1Brackets(t *testing.T) {
	in := func(k kind, brackets bool) string {
		if brackets {
			return "( " + k.text + ") "
		}
		return k.text
	}
	y, z := name("y"), name("z")
	for _, k := range kinds() {
		level, isBinary, isCond := levelOf(k.how), levelOf(k.how) >= 0, k.how == "cond"
		exprIs(t, k.x, k.text)
		exprIs(t, node(api.OpCond, k.x, y, z), in(k, isCond)+"? y : z ")
		exprIs(t, node(api.OpCond, y, k.x, z), "y ? "+k.text+": z ")
		exprIs(t, node(api.OpCond, y, z, k.x), "y ? z : "+k.text)
		for i, sign := range unarySigns() {
			exprIs(t, node(api.OpNot+i, k.x), sign+" "+in(k, isCond || isBinary))
		}
		for i, sign := range binarySigns() {
			exprIs(t, node(api.OpAdd+i, k.x, z), in(k, isCond || isBinary && level < levelOf(sign))+sign+" z ")
			exprIs(t, node(api.OpAdd+i, z, k.x), "z "+sign+" "+in(k, isCond || isBinary && level <= levelOf(sign)))
		}
		exprIs(t, node(api.OpCat, k.x), "{ "+k.text+"} ")
		exprIs(t, node(api.OpCat, y, k.x, z), "{ y , "+k.text+", z } ")
		exprIs(t, api.Expr{Op: api.OpBit, Name: "a", Kids: []api.Expr{k.x}}, "a [ "+k.text+"] ")
		exprIs(t, api.Expr{Op: api.OpPart, Name: "a", Kids: []api.Expr{k.x, k.x}}, "a [ "+k.text+": "+k.text+"] ")
		treeIs(t, oneItem(api.Item{Kind: api.ItAssign, Name: "y", Timed: true, Delay: k.x, Value: k.x}), "module m ( ) ;\nassign # "+in(k, k.how != "")+"y = "+k.text+";\nendmodule\n")
	}
}

func TestPt1Chains(t *testing.T) {
	sourceIs(t, "a ? b : c ? d : e", "a ? b : c ? d : e ")
	sourceIs(t, "a ? b ? c : d : e", "a ? b ? c : d : e ")
	sourceIs(t, "(a ? b : c) ? d : e", "( a ? b : c ) ? d : e ")
	sourceIs(t, "a - b - c - d", "a - b - c - d ")
	sourceIs(t, "a - (b - (c - d))", "a - ( b - ( c - d ) ) ")
	sourceIs(t, "(a || (b && (c | (d ^ (e & (f == (g < (h << (i + j)))))))))", "a || b && c | d ^ e & f == g < h << i + j ")
	sourceIs(t, "((((((((a || b) && c) | d) ^ e) & f) == g) < h) << i) + j", "( ( ( ( ( ( ( ( a || b ) && c ) | d ) ^ e ) & f ) == g ) < h ) << i ) + j ")
	sourceIs(t, "a & (&b) | (|c) ^ (^d) - (-e)", "a & & b | | c ^ ^ d - - e ")
	sourceIs(t, "-(-(~(!a)))", "- - ~ ! a ")
	sourceIs(t, "~((a))", "~ a ")
}

// Texts against the chapter's words said once more.
func TestPt1AsTheChapterSays(t *testing.T) {
	d := dice(5)
	for i := range 4000 {
		x := makeExpr(&d, i%6)
		want, e := wantExpr(x)
		if e != api.OK {
			t.Fatalf("%+v: a tree that has no text", x)
		}
		exprIs(t, x, want)
	}
	for i := range 600 {
		m := makeModules(&d, i%60)
		want, e := wantPrint(m)
		if e != api.OK {
			t.Fatalf("%+v: a tree that has no text", m)
		}
		treeIs(t, m, want)
	}
}
