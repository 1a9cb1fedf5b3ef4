package lower_test

import (
	"fmt"
	"silkworm/api"
	"silkworm/lower"
	"strings"
	"testing"
)

// sized is how many parts the expressions of a flat design have, and how many statements there are.
func sized(f api.Flat) (parts, stmts int) {
	var expr func(x api.Expr)
	expr = func(x api.Expr) {
		if x.Op != 0 {
			parts++
		}
		for _, k := range x.Kids {
			expr(k)
		}
	}
	var list func(l []api.Stmt)
	list = func(l []api.Stmt) {
		for _, x := range l {
			stmts++
			expr(x.Value)
			list(x.Body)
			list(x.Else)
			for _, a := range x.Arms {
				expr(a.Label)
				list(a.Body)
			}
		}
	}
	for _, p := range f.Procs {
		expr(p.Value)
		list(p.Body)
	}
	return parts, stmts
}

// small tells that a design with at most 400 parts and 60 statements is not too large.
func small(t *testing.T, what, source string) {
	t.Helper()
	f := flatOf(t, source)
	parts, stmts := sized(f)
	if parts > 400 || stmts > 60 {
		t.Fatalf("%s: %d parts and %d statements", what, parts, stmts)
	}
	l, e := lower.Run(f)
	t.Logf("%s: %d parts, %d statements, %d nets: %d nodes", what, parts, stmts, len(f.Nets), len(l.Nodes))
	if e != api.OK {
		t.Errorf("%s, with %d parts and %d statements: %d", what, parts, stmts, e)
		return
	}
	lowered(t, f)
}

// nested is a text within so many others.
func nested(n int, before, inner, after string) string {
	var ahead, behind string
	for i := range n {
		ahead += strings.ReplaceAll(before, "%", fmt.Sprint(i))
		behind = strings.ReplaceAll(after, "%", fmt.Sprint(i)) + behind
	}
	return ahead + inner + behind
}

// head is that of a module with as many nets as there may be, 60 of them regs.
func head() string {
	return "module m(input c, input [1:0] a, input [199:0] d" + times(60, ", output reg [1:0] q%") + times(449, ", output [255:0] o%") + ");\n"
}

// joined is a text so many times, with a sign between two.
func joined(n int, sign, text string) string {
	return strings.TrimSuffix(times(n, text+sign), sign)
}

func clocked(body string) string {
	return head() + "always @(posedge c) begin\n" + body + "\nend endmodule"
}

func TestLw1SmallExpressions(t *testing.T) {
	for what, items := range map[string]string{
		"a sum":           "assign o0 = " + joined(200, " + ", "a") + ";",
		"a sum of bits":   "assign o0 = " + joined(133, " + ", "a[c]") + ";",
		"a sum of parts":  "assign o0 = " + joined(100, " + ", "a[1:0]") + ";",
		"signs":           "assign o0 = " + strings.Repeat("!", 20) + "a + " + joined(125, " + ", "!c") + ";",
		"comparisons":     "assign o0 = " + joined(200, " < ", "a") + ";",
		"wide ones":       "assign o0 = " + joined(66, " ^ ", "(d < c)") + ";",
		"cats":            "assign o0 = {" + joined(255, ", ", "c") + "};",
		"narrow cats":     "assign o0 = " + joined(133, " & ", "{c}") + ";",
		"delays":          times(250, "assign #1 o% = d;"),
		"cut delays":      times(100, "wire [1:0] w%; assign #1 w% = d + d;"),
		"choices":         "assign o0 = " + "(" + nested(15, "c ? a : (", "c", ")") + ") + " + joined(65, " + ", "(c ? a : c)") + ";",
		"bits of bits":    "assign o0 = " + nested(30, "a[", "c", "]") + " + " + joined(84, " + ", "a[a[c]]") + ";",
		"different ones":  "assign o0 = " + joined(399/6, " | ", "~-(a - 1)") + ";",
		"many assigns":    times(200, "assign o% = c;"),
		"many constants":  "assign o0 = " + joined(200, " - ", "1'b1") + ";",
		"a long shift":    "assign o0 = " + joined(200, " << ", "a") + ";",
		"truths":          "assign o0 = " + joined(200, " && ", "a") + ";",
		"narrow ones":     times(100, "wire n%; assign n% = a + a;"),
		"signs of widths": "assign o0 = " + joined(79, " + ", "{c, a, a}") + ";",
	} {
		source := head()
		if strings.Contains(items, "wire ") {
			source = strings.Replace(source, times(449, ", output [255:0] o%"), times(349, ", output [255:0] o%"), 1)
		}
		t.Run(what, func(t *testing.T) { small(t, what, source+items+" endmodule") })
	}
}

func TestLw1SmallStatements(t *testing.T) {
	sets := func(n int) string { return times(n, "q% <= d; ") }
	arms := func(n int, body string) string { return times(n, "% : "+body+" ") }
	for what, body := range map[string]string{
		"many sets":              sets(60),
		"ifs within ifs":         nested(29, "if (d) ", "begin "+sets(31)+"end", ""),
		"with elses":             nested(20, "if (d) ", "begin "+sets(20)+"end", " else q% <= a;"),
		"ifs behind ifs":         times(20, "if (d) begin q% <= d; q0 <= d; end "),
		"cases within cases":     nested(29, "case (c) 0: ", "begin "+sets(30)+"end", " endcase"),
		"with many labels":       nested(29, "case (c) "+arms(10, "begin end")+"default: ", "begin "+sets(30)+"end", " endcase"),
		"with defaults":          nested(20, "case (c) 0: ", "begin "+sets(20)+"end", " default: q% <= d; endcase"),
		"sets in the last arm":   "case (d) " + arms(340, "begin end") + "340: begin " + sets(58) + "end endcase",
		"sets in the first arm":  "case (d) 0: begin " + sets(58) + "end " + arms(340, "begin end") + "endcase",
		"sets in the default":    "case (d) " + arms(340, "begin end") + "default: begin " + sets(58) + "end endcase",
		"sets in many arms":      "case (d) " + times(58, "% : q% <= d; ") + arms(280, "begin end") + "endcase",
		"sets of one net":        "case (d) " + times(58, "% : q0 <= d; ") + arms(280, "begin end") + "endcase",
		"ifs in the last arm":    "case (d) " + arms(300, "begin end") + "300: " + nested(28, "if (d) ", "begin "+sets(30)+"end", "") + " endcase",
		"cases in the last arm":  "case (d) " + arms(270, "begin end") + "300: " + nested(28, "case (d) 1: ", "begin "+sets(30)+"end", " endcase") + " endcase",
		"a long value":           "case (" + joined(100, " + ", "d") + ") " + arms(190, "begin end") + "default: q0 <= d; endcase",
		"a value of many parts":  "case (" + joined(100, " + ", "a") + ") " + arms(140, "begin end") + "default: begin " + sets(50) + "end endcase",
		"labels of many widths":  "case (" + joined(100, " + ", "a") + ") " + widths(190) + "default: q0 <= d; endcase",
		"and other operators":    "case (" + joined(20, " - ", "(~a ^ -a)") + ") " + widths(250) + "default: q0 <= d; endcase",
		"and shifts":             "case ((a + d >> 1) + c) " + widths(250) + arms(50, "begin end") + "default: " + nested(28, "if (d) ", "begin "+sets(31)+"end", "") + " endcase",
		"and bits":               "case (" + joined(14, " | ", "(~a & (a + c << 1))") + ") " + widths(250) + "default: q0 <= d; endcase",
		"of a value of one part": "case (a) " + widths(254) + arms(80, "begin end") + "default: begin " + sets(58) + "end endcase",
		"and of a narrow one":    "case (c) " + widths(254) + arms(26, "begin end") + "default: " + nested(28, "if (d) ", "begin "+sets(31)+"end", "") + " endcase",
	} {
		t.Run(what, func(t *testing.T) { small(t, what, clocked(body)) })
	}
}

// widths is arms whose labels are of as many widths.
func widths(n int) string {
	out := ""
	for i := range n {
		out += fmt.Sprintf("%d'b1: begin end ", i+3)
	}
	return out
}

// As many nodes as there may be, and one more.
func TestLw1Size(t *testing.T) {
	source := func(n int) string {
		return "module m(input a, output y); assign y = a" + times(n, " + a") + "; endmodule"
	}
	l := netlistOf(t, source(10))
	most := api.MaxNodes - len(l.Nodes) + 10
	if l = netlistOf(t, source(most)); len(l.Nodes) != api.MaxNodes {
		t.Errorf("%d nodes", len(l.Nodes))
	}
	for _, n := range []int{most + 1, most + 2, 8100} {
		if l, e := lower.Run(flatOf(t, source(n))); e != api.ErrSize || len(l.Nodes)+len(l.Nets)+l.Ports != 0 {
			t.Errorf("%d signs: %d, %d nodes", n, e, len(l.Nodes))
		}
	}
}

// What comes to far more nodes than there may be.
func TestLw1TooLarge(t *testing.T) {
	for what, source := range map[string]string{
		"a long sum of wide ones": "module m(input a, output [9:0] y); assign y = a" + times(3000, " + a") + "; endmodule",
		"many instances":          "module s(input a, output y); assign y = a" + times(100, " - a") + "; endmodule module m(input a); " + times(60, "s u% (.a(a));") + "endmodule",
		"a for":                   "module m(input a, output y); for (i = 0; i < 64; i = i + 1) begin : g wire w; assign w = a" + times(70, " ^ a") + "; end endmodule",
		"ifs":                     "module m(input c, output reg q); always @(posedge c) begin " + times(700, "if (c & q) q <= c & c ^ q; else q <= q | c ^ c; ") + " end endmodule",
		"arms":                    "module m(input c, output reg q); always @(*) begin q = c; case (c) " + times(2000, "c: q = 0; ") + "endcase end endmodule",
		"truths":                  "module m(input a, output y); assign y = a" + times(8000, " && a") + "; endmodule",
	} {
		if l, e := lower.Run(flatOf(t, source)); e != api.ErrSize || len(l.Nodes)+len(l.Nets)+l.Ports != 0 {
			t.Errorf("%s: %d, %d nodes", what, e, len(l.Nodes))
		}
	}
}
