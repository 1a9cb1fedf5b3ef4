package syntax_test

import (
	"silkworm/api"
	"silkworm/lexer"
	"strings"
	"testing"
)

// tokens is a source's tokens.
func tokens(t *testing.T, s string) []api.Token {
	t.Helper()
	l, d := lexer.Lex(s)
	if len(d) != 0 {
		t.Fatalf("%.80q is no source: %v", s, d)
	}
	return l
}

// within is the tokens of a text by their places in it, between those of two others that all have the first and the last place.
func within(t *testing.T, before, text, after string) []api.Token {
	t.Helper()
	middle := tokens(t, text)
	all := middle[:len(middle)-1]
	l := tokens(t, before)
	l = l[:len(l)-1]
	for i := range l {
		l[i].At = 0
	}
	end := tokens(t, after)
	for i := range end {
		end[i].At = len(text)
	}
	return append(append(l, all...), end...)
}

func asExpr(t *testing.T, s string) []api.Token {
	t.Helper()
	return within(t, "module m(); assign y =", s, "; endmodule")
}

func asStmt(t *testing.T, s string) []api.Token {
	t.Helper()
	return within(t, "module m(); always @(*)", s, "endmodule")
}

func asItem(t *testing.T, s string) []api.Token {
	t.Helper()
	return within(t, "module m();", s, "endmodule")
}

// alphabet is all words and signs, and some names and numbers.
func alphabet() []api.Token {
	var all []api.Token
	for _, s := range strings.Fields(languageWords + " a i m") {
		all = append(all, api.Token{Kind: api.TokName, Text: s})
	}
	for _, s := range strings.Fields("( ) [ ] { } , ; : . # @ ? + - ~ ! & | ^ = < > * && || == != <= >= << >>") {
		all = append(all, api.Token{Kind: api.TokSign, Text: s})
	}
	for _, s := range strings.Fields("0 12 4'b01xz") {
		all = append(all, api.Token{Kind: api.TokNumber, Text: s})
	}
	return all
}

// corpus is sources in which each place of the grammar stands.
func corpus() []string {
	return []string{
		"module m(); endmodule",
		"module m(input a); endmodule module n(output b); endmodule",
		"module m #(parameter N = 4, parameter M = N + 1) (input a, input [N-1:0] b, output c, output [3:0] d, output reg e, output reg [M:0] f); endmodule",
		"module m(); wire a; wire [3:0] b, c; reg d, e, f; reg [1:0] g; localparam L = 3; endmodule",
		"module m(); assign a = b; assign #2 c = d; assign #(N + 1) e = f; assign #N g = h; assign #N[1] g = h; assign #N[1:0] g = h; assign #{a, b} c = d; endmodule",
		"module m(); always @(*) a = b; always @(posedge c) d <= e; always @(*) begin end endmodule",
		"module m(); sub u (); sub v (.a(b)); sub #(.N(3)) w (.a(b), .c(d + 1)); sub #(.N(3), .M(4)) x (); endmodule",
		"module m(); for (i = 0; i < 4; i = i + 1) begin : g wire a; for (j = i; j; j = j - 1) begin : h end sub u (.a(a)); end endmodule",
		"module m(); always @(*) begin if (a) b = c; if (a) b = c; else d = e; if (a) if (b) c = d; else e = f; else begin g = h; i = j; end end endmodule",
		"module m(); always @(*) begin case (a) endcase case (a) default: b = c; endcase case (a) 1: b = c; 2'b1x: begin end default: d = e; endcase case (a) a ? b : c : d = e; endcase end endmodule",
		"module m(); always @(posedge c) begin a <= b <= c; begin d = e; end begin begin end end end endmodule",
		"module m(); assign y = a ? b : c ? d : e || f && g | h ^ i & j == k != l < m <= n > o >= p << q >> r + s - t; endmodule",
		"module m(); assign y = ~a + !b - -c & &d | |e ^ ^f; assign y = a[1] + a[b:0] + (a) + {a} + {a, b, c} + 12 + 4'b01xz; endmodule",
	}
}

type dice uint32

func (d *dice) roll(n int) int {
	*d = *d*1664525 + 1013904223
	return int(*d>>8) % n
}

func (d *dice) one(list ...string) string {
	return list[d.roll(len(list))]
}

// spoilt is tokens of which one is another one, left out, put in twice, or is the last one.
func (d *dice) spoilt(l []api.Token) []api.Token {
	all := alphabet()
	at := d.roll(len(l) - 1)
	x := all[d.roll(len(all))]
	x.At = l[at].At
	var out []api.Token
	out = append(out, l[:at]...)
	switch d.roll(5) {
	case 0:
		return append(append(out, x), l[at+1:]...)
	case 1:
		return append(out, l[at+1:]...)
	case 2:
		return append(append(out, x), l[at:]...)
	case 3:
		return append(append(out, l[at]), l[at:]...)
	}
	return append(out, api.Token{Kind: api.TokEnd, At: l[at].At})
}
