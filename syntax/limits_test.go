package syntax_test

import (
	"maps"
	"silkworm/api"
	"silkworm/syntax"
	"slices"
	"strings"
	"testing"
)

// wrap is what stands ahead of a part and behind it.
type wrap struct{ before, after string }

func (w wrap) times(n int, inner string) string {
	return strings.Repeat(w.before, n) + inner + strings.Repeat(w.after, n)
}

// deeper is wraps within which an expression is one deeper.
func deeper() []wrap {
	return []wrap{{"(", ")"}, {"{", "}"}, {"{", ",a}"}, {"a[", "]"}, {"a[", ":1]"}, {"~", ""}, {"!", ""}, {"-", ""}, {"& ", ""}, {"| ", ""}, {"^", ""}, {"a?", ":b"}, {"1+a?", ":b"}, {"a+(", ")"}, {"a|{", "}-b"}}
}

// behindOne is wraps of which another part ahead is one deeper as well: where that begins.
func behindOne() map[wrap]int {
	return map[wrap]int{{"{a,", "}"}: 1, {"{a,b,", ",c}"}: 1, {"a[1:", "]"}: 2, {"a?b:", ""}: 2, {"a||b?c:", ""}: 5, {"a+~b+(", ")"}: 3}
}

// level is wraps within which it is as deep.
func level() []wrap {
	return []wrap{{"a+", ""}, {"", "-a"}, {"a<<b+", "==c"}, {"a||", ""}, {"", "&&a"}, {"a<1|", "&b"}}
}

// places is where expressions of items, statements, modules and ports stand: all at depth 1.
func places() []wrap {
	return []wrap{
		{"module m #(parameter N = ", ")(); endmodule"}, {"module m #(parameter N = a, parameter M = ", ")(); endmodule"}, {"module m(input [", ":0] a); endmodule"}, {"module m(output reg [0:", "] a); endmodule"}, {"module m(); wire [", ":0] a; endmodule"}, {"module m(); reg [0:", "] a; endmodule"},
		{"module m(); localparam a = ", "; endmodule"}, {"module m(); assign a = ", "; endmodule"}, {"module m(); assign #1 a = ", "; endmodule"}, {"module m(); a #(.b(", ")) c(); endmodule"}, {"module m(); a b(.c(", ")); endmodule"}, {"module m(); a b(.c(d), .e(", ")); endmodule"},
		{"module m(); for (i = ", "; 1; i = 1) begin : g end endmodule"}, {"module m(); for (i = 1; ", "; i = 1) begin : g end endmodule"}, {"module m(); for (i = 1; 1; i = ", ") begin : g end endmodule"}, {"module m(); always @(*) a = ", "; endmodule"}, {"module m(); always @(posedge c) a <= ", "; endmodule"},
		{"module m(); always @(*) if (", ") a = b; endmodule"}, {"module m(); always @(*) case (", ") endcase endmodule"}, {"module m(); always @(*) case (a) ", ": b = c; endcase endmodule"}, {"module m(); for (i = 0; 1; i = 1) begin : g assign a = ", "; end endmodule"}, {"module m(); always @(*) begin if (a) case (b) 1: c = ", "; endcase end endmodule"},
	}
}

func TestSy1DepthOfExprs(t *testing.T) {
	for _, w := range deeper() {
		for _, p := range places() {
			for _, inner := range []string{"x", "1", "4'bxz"} {
				read(t, tokens(t, p.before+w.times(31, inner)+p.after))
			}
			at := len(p.before) + 32*len(w.before)
			for _, inner := range []string{"x", "1", "(x)", "{x}", "~x", "!x", "-x", "&x", "|x", "^x", "x[1]", "x ? y : z", "x + y"} {
				s := p.before + w.times(32, inner)
				refusedIs(t, tokens(t, s+p.after), at, api.ErrDeep)
				refusedIs(t, tokens(t, s), at, api.ErrDeep)
				refusedIs(t, tokens(t, s+" ) ] } module 1"), at, api.ErrDeep)
			}
			for _, inner := range []string{"", ")", "]", "}", ";", ":", ",", "?", "+x", "module", "end", "@", "[1]"} {
				refusedIs(t, tokens(t, p.before+strings.Repeat(w.before, 32)+inner), at, api.ErrSyntax)
			}
		}
	}
	for w, first := range behindOne() {
		for _, p := range places() {
			read(t, tokens(t, p.before+w.times(31, "x")+p.after))
			refusedIs(t, tokens(t, p.before+w.times(32, "x")+p.after), len(p.before)+31*len(w.before)+first, api.ErrDeep)
		}
	}
}

func TestSy1DepthOfDelays(t *testing.T) {
	for _, w := range deeper()[:5] {
		p := wrap{"module m(); assign #", " a = b; endmodule"}
		read(t, tokens(t, p.before+w.times(31, "1")+p.after))
		refusedIs(t, tokens(t, p.before+w.times(32, "1")+p.after), len(p.before)+32*len(w.before), api.ErrDeep)
	}
}

// Parts of binary ones are as deep as these, however many they are.
func TestSy1AsDeep(t *testing.T) {
	for _, w := range level() {
		for _, inner := range []string{wrap{"(", ")"}.times(31, "x"), wrap{"~", ""}.times(31, "x"), wrap{"a[", "]"}.times(31, "x")} {
			read(t, asExpr(t, w.times(500, inner)))
		}
		s := wrap{"(", ")"}.times(31, w.times(500, "~x"))
		refusedIs(t, asExpr(t, s), strings.Index(s, "~x")+1, api.ErrDeep)
	}
	read(t, asExpr(t, strings.Repeat("a+", 8000)+"a"))
	read(t, asExpr(t, strings.Repeat("~a|", 5000)+"a"))
	// One that is deep says nothing of the next one.
	deep := wrap{"(", ")"}.times(31, "x")
	read(t, asExpr(t, deep+"+"+deep+"?"+wrap{"{", "}"}.times(30, "x")+":"+wrap{"a[", "]"}.times(30, "x")))
	refusedIs(t, asExpr(t, deep+"+("+deep+")"), len(deep)+33, api.ErrDeep)
	refusedIs(t, asExpr(t, "a?"+deep+":b"), 33, api.ErrDeep)
	refusedIs(t, asExpr(t, "a?b:"+deep), 35, api.ErrDeep)
	read(t, asExpr(t, deep+"?a:b"))
}

// stmtWraps is statements around one.
func stmtWraps() []wrap {
	return []wrap{{"begin ", " end"}, {"begin ", " c = d; end"}, {"if (a) ", ""}, {"case (a) b: ", " endcase"}, {"case (a) default: ", " endcase"}, {"case (a) b: ", " c: d = e; default: begin end endcase"}}
}

// stmtsBehindOne is statements around one, and another one ahead of it: where that begins.
func stmtsBehindOne() map[wrap]int {
	return map[wrap]int{{"begin a = b; ", " end"}: 6, {"if (a) b = c; else ", ""}: 7, {"if (a) begin end else ", ""}: 7, {"case (a) b: c = d; e: ", " default: begin end endcase"}: 12, {"case (a) b: c = d; default: ", " endcase"}: 12}
}

func sorted(m map[wrap]int) []wrap {
	return slices.SortedFunc(maps.Keys(m), func(a, b wrap) int { return strings.Compare(a.before, b.before) })
}

func TestSy1DepthOfStmts(t *testing.T) {
	for _, w := range stmtWraps() {
		at := 32 * len(w.before)
		for _, inner := range []string{"a = b;", "a <= b;", "begin end", "case (a) endcase"} {
			read(t, asStmt(t, w.times(31, inner)))
			read(t, asStmt(t, "begin "+w.times(30, inner)+" "+w.times(30, inner)+" end"))
			refusedIs(t, asStmt(t, w.times(32, inner)), at, api.ErrDeep)
		}
		for _, inner := range []string{"if (a) b = c;", "begin", "if", "case", "a", "x ="} {
			refusedIs(t, asStmt(t, w.times(32, inner)+" wire 1"), at, api.ErrDeep)
		}
		for _, inner := range []string{"(", "1", "else", "wire a;", "module", "endmodule", ";", "="} {
			refusedIs(t, asStmt(t, w.times(32, inner)), at, api.ErrSyntax)
		}
	}
	for w, first := range stmtsBehindOne() {
		read(t, asStmt(t, w.times(31, "x = y;")))
		refusedIs(t, asStmt(t, w.times(32, "x = y;")), 31*len(w.before)+first, api.ErrDeep)
	}
	// Within a begin that is at depth 32 nothing may stand but its end.
	s := strings.Repeat("begin ", 32)
	read(t, asStmt(t, s+strings.Repeat("end ", 32)))
	refusedIs(t, asStmt(t, s+"else"), len(s), api.ErrSyntax)
	refusedIs(t, asStmt(t, s+"if"), len(s), api.ErrDeep)
	// Expressions begin anew.
	e := wrap{"(", ")"}.times(31, "x")
	read(t, asStmt(t, wrap{"if (" + e + ") ", ""}.times(31, "a = "+e+";")))
	// An if behind an else is within it.
	chain := wrap{"if (a) b = c; else ", ""}
	read(t, asStmt(t, chain.times(31, "b = d;")))
	refusedIs(t, asStmt(t, chain.times(31, "if (a) b = d;")), 31*len(chain.before)+7, api.ErrDeep)
}

func TestSy1DepthOfItems(t *testing.T) {
	w := wrap{"for (i = 0; i < 2; i = i + 1) begin : g ", " end"}
	for _, w := range []wrap{w, {w.before, " sub u();" + w.after}} {
		at := 32 * len(w.before)
		for _, inner := range []string{"", "wire a;", "reg [1:0] a, b;", "localparam a = 1;", "assign a = b;", "always @(*) a = b;", "sub u();"} {
			read(t, asItem(t, w.times(31, inner)))
			if inner != "" {
				refusedIs(t, asItem(t, w.times(32, inner)), at, api.ErrDeep)
			}
		}
		for _, inner := range []string{"for", "wire", "reg", "localparam", "assign", "always", "sub", w.before} {
			refusedIs(t, asItem(t, w.times(31, w.before+inner)), at, api.ErrDeep)
		}
		for _, inner := range []string{"begin", "if", "module", "endmodule", "1", "(", ";", "input", "parameter"} {
			refusedIs(t, asItem(t, w.times(31, w.before+inner)), at, api.ErrSyntax)
		}
	}
	read(t, asItem(t, w.times(32, "")))
	refusedIs(t, asItem(t, w.times(33, "")), 32*len(w.before), api.ErrDeep)
	behind := wrap{w.before + "wire a; ", w.after}
	read(t, asItem(t, behind.times(31, "wire b;")))
	refusedIs(t, asItem(t, behind.times(32, "wire b;")), 31*len(behind.before)+len(w.before), api.ErrDeep)
	// Statements begin anew.
	s := wrap{"begin ", " end"}.times(31, "a = "+wrap{"~", ""}.times(31, "x")+";")
	read(t, asItem(t, w.times(31, "always @(*) "+s)))
	refusedIs(t, asItem(t, w.times(31, "always @(*) begin "+s+" end")), 31*len(w.before)+len("always @(*) ")+32*6, api.ErrDeep)
}

// Of a fault and a depth that is too great the one that is met first counts.
func TestSy1FaultOrDepth(t *testing.T) {
	deep := wrap{"(", ")"}.times(32, "x")
	refusedIs(t, asExpr(t, "a ; "+deep), 4, api.ErrSyntax)
	refusedIs(t, asExpr(t, "a b "+deep), 2, api.ErrSyntax)
	refusedIs(t, asExpr(t, deep+" b"), 32, api.ErrDeep)
	refusedIs(t, asExpr(t, strings.Repeat("(", 32)+")"), 32, api.ErrSyntax)
	refusedIs(t, asExpr(t, strings.Repeat("(", 32)), 32, api.ErrSyntax)
	refusedIs(t, asExpr(t, strings.Repeat("(", 33)), 32, api.ErrDeep)
	refusedIs(t, asExpr(t, strings.Repeat("(", 32)+"x y"), 32, api.ErrDeep)
	refusedIs(t, asExpr(t, strings.Repeat("(", 31)+"x y"), 33, api.ErrSyntax)
	refusedIs(t, asExpr(t, "a + "+deep+" + "+wrap{"~", ""}.times(40, "x")), 36, api.ErrDeep)
	refusedIs(t, asExpr(t, wrap{"~", ""}.times(9000, "x")), 32, api.ErrDeep)
	refusedIs(t, asStmt(t, wrap{"begin ", "end "}.times(5000, "")), 32*6, api.ErrDeep)
	refusedIs(t, asStmt(t, strings.Repeat("if (a) ", 1000)), 32*7, api.ErrDeep)
	refusedIs(t, asExpr(t, strings.Repeat("a ? ", 4000)), 32*4, api.ErrDeep)
}

// Chains of mixed wraps, most of them about as deep as may be, against the chapter's words.
func TestSy1DepthAsTheChapterSays(t *testing.T) {
	d := dice(41)
	told := map[api.Errno]int{}
	is := func(l []api.Token) {
		reasonIs(t, l)
		_, why := syntax.Parse(l)
		if len(why) == 0 {
			why = []api.Diag{{}}
		}
		told[why[0].Code]++
	}
	mixed := func(wraps []wrap, inner string) string {
		for range 27 + d.roll(10) {
			w := wraps[d.roll(len(wraps))]
			inner = w.before + inner + w.after
		}
		return inner
	}
	exprs := slices.Concat(deeper(), deeper(), level(), sorted(behindOne()))
	stmts := slices.Concat(stmtWraps(), sorted(stmtsBehindOne()))
	for range 1000 {
		is(asExpr(t, mixed(exprs, d.one("x", "1", "a[1]", "~x"))))
		is(asStmt(t, mixed(stmts, d.one("x = y;", "begin end", "if (a) b = c;", "x <= ~y;"))))
		is(d.spoilt(asExpr(t, mixed(exprs, "x"))))
		is(d.spoilt(asStmt(t, mixed(stmts, "x = y;"))))
		is(asItem(t, mixed([]wrap{{"for (i = 0; 1; i = 1) begin : g ", "end "}}, d.one("", "wire a;", "sub u();"))))
	}
	for _, e := range []api.Errno{api.OK, api.ErrSyntax, api.ErrDeep} {
		if told[e] < 500 {
			t.Errorf("too few of %d: %v", e, told)
		}
	}
}

// As many tokens as a source may have.
func TestSy1ManyTokens(t *testing.T) {
	s := "module m();" + strings.Repeat("wire a;", (16384-6)/3) + "endmodule"
	l := tokens(t, s)
	if m := read(t, l); len(m) != 1 || len(m[0].Items) != 5459 || m[0].Items[5458].At != 11+7*5458 {
		t.Errorf("%d modules", len(m))
	}
	s = strings.Repeat("module m();endmodule ", 2730)
	if m := read(t, tokens(t, s)); len(m) != 2730 || m[2729].At != 21*2729 {
		t.Errorf("%d modules", len(m))
	}
	refusedIs(t, tokens(t, s+"m"), len(s), api.ErrSyntax)
}
