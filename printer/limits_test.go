package printer_test

import (
	"silkworm/api"
	"silkworm/printer"
	"slices"
	"strings"
	"testing"
)

// longModule is a module whose text has so many bytes: wires of 72 bytes each, and a last one of what is left.
func longModule(bytes int) []api.Module {
	var items []api.Item
	wire := func(n int) {
		items = append(items, api.Item{Kind: api.ItWire, Names: []string{strings.Repeat("w", n-len("wire  ;\n"))}})
	}
	left := bytes - len("module m ( ) ;\nendmodule\n")
	for left > 2*72 {
		wire(72)
		left -= 72
	}
	wire(left / 2)
	wire(left - left/2)
	return []api.Module{{Name: "m", Items: items}}
}

func TestPt1LongTexts(t *testing.T) {
	for _, n := range []int{1000, 65534, 65535, 65536} {
		if s, e := printer.Print(longModule(n)); e != api.OK || len(s) != n || toldOf(s) != told(longModule(n)) {
			t.Errorf("%d bytes: %d, %d bytes", n, e, len(s))
		}
	}
	for _, n := range []int{65537, 65538, 65600, 200000} {
		treeIs(t, longModule(n), "")
	}
	// Each byte behind the last token counts, too.
	m := longModule(65536)
	m = append(m, api.Module{Name: "n"})
	treeIs(t, m, "")
}

// longExpr is an expression whose text has so many bytes.
func longExpr(bytes int) api.Expr {
	var parts []api.Expr
	left := bytes - len("{ } ") + len(", ")
	part := func(n int) {
		parts = append(parts, name(strings.Repeat("w", n-len(" , "))))
	}
	for left > 2*67 {
		part(67)
		left -= 67
	}
	part(left / 2)
	part(left - left/2)
	return node(api.OpCat, parts...)
}

func TestPt1LongExprs(t *testing.T) {
	for _, n := range []int{1000, 65536 - 66, 65536 - 65, 65536 - 64} {
		s, e := printer.Expr(longExpr(n))
		if e != api.OK || len(s) != n || told(exprOf(t, s)) != told(longExpr(n)) {
			t.Errorf("%d bytes: %d, %d bytes", n, e, len(s))
		}
	}
	for _, n := range []int{65536 - 63, 65536 - 62, 65536 - 38, 65536 - 37, 65536 - 36, 65536, 65537, 200000} {
		exprIs(t, longExpr(n), "")
	}
	// As a module's the same expression has a text up to the last byte.
	over := longExpr(65536 - 63)
	if s, e := printer.Print(oneItem(api.Item{Kind: api.ItAssign, Name: "a", Value: over})); e != api.OK || len(s) != len("module m ( ) ;\nassign a = ;\nendmodule\n")+65536-63 {
		t.Errorf("%d, %d bytes", e, len(s))
	}
}

// Tokens that are too many: all those of the text count.
func TestPt1ManyTokens(t *testing.T) {
	wires := func(n int) api.Item {
		return api.Item{Kind: api.ItWire, Names: slices.Repeat([]string{"a"}, n)}
	}
	// wire, n names, n - 1 commas and ; in a module of six tokens: 2 n + 7.
	one := api.Item{Kind: api.ItWire, Names: []string{"a"}}
	if s, e := printer.Print([]api.Module{{Name: "m", Items: []api.Item{wires(8187), one}}}); e != api.OK || len(s) != 32778+9 {
		t.Errorf("%d, %d bytes", e, len(s))
	}
	treeIs(t, []api.Module{{Name: "m", Items: []api.Item{wires(8188), one}}}, "")
	treeIs(t, []api.Module{{Name: "m", Items: []api.Item{wires(8189)}}}, "")
	// A source of fewer tokens than its text, that has begin and end: six, and eleven for each item.
	for n, want := range map[int]api.Errno{1488: api.OK, 1489: api.ErrArg, 1819: api.ErrArg} {
		m := modulesOf(t, "module m();"+strings.Repeat("always @(*) a=b;", n)+"endmodule")
		if s, e := printer.Print(m); e != want || (e == api.OK) == (s == "") {
			t.Errorf("%d items: %d", n, e)
		}
	}
	// n parts, n - 1 commas and { } behind a sign, between ten tokens: 2 n + 12.
	list := func(n int) api.Expr {
		return node(api.OpNot, node(api.OpCat, slices.Repeat([]api.Expr{name("a")}, n)...))
	}
	if s, e := printer.Expr(list(8186)); e != api.OK || len(s) != 2*16374 {
		t.Errorf("%d, %d bytes", e, len(s))
	}
	exprIs(t, list(8187), "")
	exprIs(t, node(api.OpNot, list(8186)), "")
}

// Sums are as long as there may be tokens.
func TestPt1LongSums(t *testing.T) {
	sum := func(n int) api.Expr {
		x := name("a")
		for range n {
			x = node(api.OpAdd, x, name("b"))
		}
		return x
	}
	for _, n := range []int{1, 100, 8186} {
		exprIs(t, sum(n), "a "+strings.Repeat("+ b ", n))
	}
	for _, n := range []int{8187, 16383, 16384, 16385, 20000, 100000} {
		exprIs(t, sum(n), "")
		treeIs(t, oneItem(api.Item{Kind: api.ItAssign, Name: "a", Value: sum(n)}), "")
	}
}

// deepIs tells how often a thing may be put into another one.
func deepIs(t *testing.T, what string, most int, once func(api.Expr) api.Expr) {
	t.Helper()
	x := name("a")
	for n := range 40 {
		want, e := api.OK, api.OK
		if n > most {
			want = api.ErrArg
		}
		if _, e = printer.Expr(x); e != want {
			t.Errorf("%s %d times: %d, not %d", what, n, e, want)
		}
		x = once(x)
	}
}

func TestPt1DeepExprs(t *testing.T) {
	b := name("b")
	deepIs(t, "~", 31, func(x api.Expr) api.Expr { return node(api.OpNot, x) })
	deepIs(t, "{ }", 31, func(x api.Expr) api.Expr { return node(api.OpCat, b, x) })
	deepIs(t, "[ ]", 31, func(x api.Expr) api.Expr { return api.Expr{Op: api.OpBit, Name: "b", Kids: []api.Expr{x}} })
	deepIs(t, "[ : ]", 31, func(x api.Expr) api.Expr { return api.Expr{Op: api.OpPart, Name: "b", Kids: []api.Expr{b, x}} })
	deepIs(t, "? a", 31, func(x api.Expr) api.Expr { return node(api.OpCond, b, x, b) })
	deepIs(t, ": a", 31, func(x api.Expr) api.Expr { return node(api.OpCond, b, b, x) })
	// Of brackets that the text has each one makes it deeper: the first is needed around the second one.
	deepIs(t, "b + ( )", 32, func(x api.Expr) api.Expr { return node(api.OpAdd, b, x) })
	// Behind the last ( the parts behind ? are one deeper still.
	deepIs(t, "( ) ?", 31, func(x api.Expr) api.Expr { return node(api.OpCond, x, b, b) })
	deepIs(t, "a + b", 99, func(x api.Expr) api.Expr { return node(api.OpAdd, x, b) })
	deepIs(t, "~ ( b + a )", 15, func(x api.Expr) api.Expr { return node(api.OpNot, node(api.OpAdd, b, x)) })
}

// A source is read that is not so deep; its text is, by the begins that it has more.
func TestPt1DeepStatements(t *testing.T) {
	for n := range 32 {
		for _, s := range []string{"if (a) ", "case (a) default: ", "case (a) b: ", "if (a) b = c; else "} {
			end := strings.Repeat("endcase ", n)
			if s[0] == 'i' {
				end = ""
			}
			m := modulesOf(t, "module m(); always @(*) "+strings.Repeat(s, n)+"b = c;"+end+"endmodule")
			want := api.OK
			if n > 15 {
				want = api.ErrArg
			}
			if s, e := printer.Print(m); e != want || (e == api.OK) == (s == "") {
				t.Errorf("%d times: %d, not %d", n, e, want)
			}
		}
	}
	// Nothing is within the last body.
	for n := range 20 {
		m := oneItem(api.Item{Kind: api.ItComb})
		body := &m[0].Items[0].Body
		for range n {
			*body = []api.Stmt{{Kind: api.StIf, Value: name("a")}}
			body = &(*body)[0].Body
		}
		if _, e := printer.Print(m); (e == api.OK) != (n <= 15) {
			t.Errorf("%d times: %d", n, e)
		}
	}
}

func TestPt1DeepItems(t *testing.T) {
	var list []api.Item
	head, want := "for ( i = 0 ; 1 ; i = 1 ) begin : g\n", ""
	for n := range 40 {
		if n <= 32 {
			treeIs(t, []api.Module{{Name: "m", Items: list}}, "module m ( ) ;\n"+want+"endmodule\n")
		} else {
			treeIs(t, []api.Module{{Name: "m", Items: list}}, "")
		}
		list = []api.Item{{Kind: api.ItFor, Name: "g", Var: "i", Value: plain(0), While: plain(1), Next: plain(1), Items: list}}
		want = head + want + "end\n"
	}
}
