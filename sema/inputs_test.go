package sema_test

import (
	"silkworm/api"
	"silkworm/lexer"
	"silkworm/pre"
	"silkworm/sema"
	"silkworm/syntax"
	"slices"
	"strings"
	"testing"
)

// What stands around the items of most tests: k, h and g are no names there, w and v are wires, s is a reg.
const (
	before = "module m #(parameter P = 1) (input a, input b, input clk, output y, output z, output reg q, output reg r); wire w, v; reg s; localparam L = 2; "
	behind = " endmodule module n #(parameter N = 2, parameter M = 3) (input i, input j, output o, output t, output reg p); endmodule module e (); endmodule"
)

// loop is a for.
func loop(variable, label, items string) string {
	return "for (" + variable + " = 0; " + variable + " < 2; " + variable + " = " + variable + " + 1) begin : " + label + " " + items + " end "
}

// comb is an always without a clock, clock one with a clock.
func comb(stmts string) string  { return "always @(*) begin " + stmts + " end " }
func clock(stmts string) string { return "always @(posedge clk) begin " + stmts + " end " }

// marked is a source without its mark, a $, and the place of what stands behind that; -1: it has none.
func marked(source string) (string, int) {
	return strings.Replace(source, "$", "", 1), strings.Index(source, "$")
}

// modulesOf is a source as the layers below read it.
func modulesOf(t *testing.T, source string) []api.Module {
	t.Helper()
	l, why := lexer.Lex(source)
	if len(why) == 0 {
		l, why = pre.Run(l)
	}
	if len(why) > 0 {
		t.Fatalf("%.2000q: %v", source, why)
	}
	m, why := syntax.Parse(l)
	if len(why) > 0 {
		t.Fatalf("%.2000q: %v", source, why)
	}
	return m
}

// sourceIs tells that a source is refused at its mark by a code, or, by api.OK, that it is not.
func sourceIs(t *testing.T, source string, code api.Errno) {
	t.Helper()
	clean, at := marked(source)
	if (at < 0) != (code == api.OK) {
		t.Fatalf("%.2000q: a mark stands where there is a reason", source)
	}
	var want []api.Diag
	if code != api.OK {
		want = []api.Diag{{At: at, Code: code}}
	}
	if got := sema.Check(modulesOf(t, clean)); !slices.Equal(got, want) {
		t.Errorf("%.2000q: %v, not %v", source, got, want)
	}
}

// itemsAre tells the same of items in the module that stands around them.
func itemsAre(t *testing.T, items string, code api.Errno) {
	t.Helper()
	sourceIs(t, before+items+behind, code)
}

func accepted(t *testing.T, list ...string) {
	t.Helper()
	for _, items := range list {
		itemsAre(t, items, api.OK)
	}
}

func refused(t *testing.T, code api.Errno, list ...string) {
	t.Helper()
	for _, items := range list {
		itemsAre(t, items, code)
	}
}

type dice uint32

func (d *dice) roll(n int) int {
	*d = *d*1664525 + 1013904223
	return int(*d>>8) % n
}

func (d *dice) one(list ...string) string {
	return list[d.roll(len(list))]
}

// checkIs tells the reasons of modules.
func checkIs(t *testing.T, source string, m []api.Module, want []api.Diag) {
	t.Helper()
	if got := sema.Check(m); !slices.Equal(got, want) {
		t.Errorf("%.3000s: %v, not %v", source, got, want)
	}
}

func codeOf(why []api.Diag) api.Errno {
	if len(why) == 0 {
		return api.OK
	}
	return why[0].Code
}

// readable is a source as the layers below read it, if they do.
func readable(source string) ([]api.Module, bool) {
	l, why := lexer.Lex(source)
	if len(why) > 0 {
		return nil, false
	}
	m, why := syntax.Parse(l)
	return m, len(why) == 0
}
