package elab_test

import (
	"fmt"
	"reflect"
	"silkworm/api"
	"silkworm/elab"
	"silkworm/lexer"
	"silkworm/pre"
	"silkworm/syntax"
	"strconv"
	"strings"
	"testing"
)

// marked is a source without its mark, a $, and the place of what stands behind that; -1: it has none.
func marked(source string) (string, int) {
	return strings.Replace(source, "$", "", 1), strings.Index(source, "$")
}

// readable is a source as the layers below read it, if they do.
func readable(source string) ([]api.Module, bool) {
	l, why := lexer.Lex(source)
	if len(why) == 0 {
		l, why = pre.Run(l)
	}
	if len(why) > 0 {
		return nil, false
	}
	m, why := syntax.Parse(l)
	return m, len(why) == 0
}

func modulesOf(t *testing.T, source string) []api.Module {
	t.Helper()
	m, ok := readable(source)
	if !ok {
		t.Fatalf("%.2000q is not read", source)
	}
	return m
}

// refusedAt tells that a source, of which m is the top, is refused at its mark by a code, with nothing beside it.
func refusedAt(t *testing.T, code api.Errno, list ...string) {
	t.Helper()
	for _, source := range list {
		clean, at := marked(source)
		f, why := elab.Build(modulesOf(t, clean), "m")
		if want := []api.Diag{{At: at, Code: code}}; at < 0 || !reflect.DeepEqual(why, want) || !reflect.DeepEqual(f, api.Flat{}) {
			t.Errorf("%.2000q: %v, not %v; %d nets", source, why, want, len(f.Nets))
		}
	}
}

// built is the design of a source, of which m is the top.
func built(t *testing.T, source string) api.Flat {
	t.Helper()
	f, why := elab.Build(modulesOf(t, source), "m")
	if len(why) > 0 {
		t.Fatalf("%.2000q: %v", source, why)
	}
	return f
}

func accepted(t *testing.T, list ...string) {
	t.Helper()
	for _, source := range list {
		built(t, source)
	}
}

// netsAre tells the nets of a source: their names, widths (but 1) and kinds.
func netsAre(t *testing.T, source, want string) {
	t.Helper()
	if got := netsText(built(t, source)); got != want {
		t.Errorf("%.2000q: the nets are\n%s, not\n%s", source, got, want)
	}
}

// procsAre tells the processes of a source.
func procsAre(t *testing.T, source string, want ...string) {
	t.Helper()
	if got, list := procsText(built(t, source)), strings.Join(want, "\n"); got != list {
		t.Errorf("%.2000q: the processes are\n%s\nnot\n%s", source, got, list)
	}
}

func netsText(f api.Flat) string {
	var out []string
	for i, n := range f.Nets {
		s := n.Name
		if n.Wide != 1 {
			s += "<" + strconv.Itoa(n.Wide) + ">"
		}
		s += ":" + []string{"?", "open", "in", "wire", "comb", "reg", "delay"}[n.Kind]
		if i+1 == f.Ports {
			s += " |"
		}
		out = append(out, s)
	}
	return strings.Join(out, " ")
}

func procsText(f api.Flat) string {
	var out []string
	for _, p := range f.Procs {
		out = append(out, procText(f, p))
	}
	return strings.Join(out, "\n")
}

// procText is a process, with a ! where a field is not zero that has no meaning.
func procText(f api.Flat, p api.Proc) string {
	s := ""
	if p.Kind != api.ItAssign && (p.Target != 0 || p.Delay != 0 || !reflect.DeepEqual(p.Value, api.Expr{})) || p.Kind == api.ItAssign && len(p.Body) > 0 || (p.Kind == api.ItClock) != (p.Clock != -1) {
		s = "! "
	}
	switch p.Kind {
	case api.ItAssign:
		s += f.Nets[p.Target].Name
		if p.Delay != 0 {
			s += " #" + strconv.Itoa(p.Delay)
		}
		return s + " = " + exprText(p.Value)
	case api.ItComb:
		return s + "@* " + stmtsText(p.Body)
	case api.ItClock:
		return s + "@" + f.Nets[p.Clock].Name + " " + stmtsText(p.Body)
	}
	return "?"
}

func stmtsText(l []api.Stmt) string {
	var out []string
	for _, x := range l {
		out = append(out, stmtText(x))
	}
	return "{" + strings.Join(out, "; ") + "}"
}

func stmtText(x api.Stmt) string {
	switch x.Kind {
	case api.StSet:
		return x.Target + " = " + exprText(x.Value)
	case api.StDefer:
		return x.Target + " <= " + exprText(x.Value)
	case api.StIf:
		return "if " + exprText(x.Value) + " " + stmtsText(x.Body) + " else " + stmtsText(x.Else)
	case api.StCase:
		var arms []string
		for _, a := range x.Arms {
			label := exprText(a.Label)
			if a.Default {
				label = "default"
			}
			arms = append(arms, label+": "+stmtsText(a.Body))
		}
		return "case " + exprText(x.Value) + " {" + strings.Join(arms, " ") + "}"
	}
	return "?"
}

func signs() map[int]string {
	return map[int]string{
		api.OpNot: "~", api.OpLog: "!", api.OpNeg: "-", api.OpAllR: "&", api.OpAnyR: "|", api.OpXorR: "^", api.OpAdd: "+", api.OpSub: "-", api.OpShl: "<<", api.OpShr: ">>",
		api.OpLt: "<", api.OpLe: "<=", api.OpGt: ">", api.OpGe: ">=", api.OpEq: "==", api.OpNe: "!=", api.OpAnd: "&", api.OpXor: "^", api.OpOr: "|", api.OpLand: "&&", api.OpLor: "||",
	}
}

func exprText(x api.Expr) string {
	var kids []string
	for _, k := range x.Kids {
		kids = append(kids, exprText(k))
	}
	switch x.Op {
	case api.OpNum:
		if n, err := strconv.ParseUint(x.Value, 2, 64); x.Plain && len(x.Value) == 32 && err == nil {
			return fmt.Sprint(n)
		}
		return fmt.Sprintf("%d'b%s", len(x.Value), x.Value)
	case api.OpName:
		return x.Name
	case api.OpBit, api.OpPart:
		return x.Name + "[" + strings.Join(kids, ":") + "]"
	case api.OpCat:
		return "{" + strings.Join(kids, ", ") + "}"
	case api.OpCond:
		return "(" + kids[0] + " ? " + kids[1] + " : " + kids[2] + ")"
	}
	if len(kids) == 1 {
		return signs()[x.Op] + kids[0]
	}
	return "(" + strings.Join(kids, " "+signs()[x.Op]+" ") + ")"
}

// loop is a for, as often as its variable is below a number.
func loop(variable string, below int, label, items string) string {
	return fmt.Sprintf("for (%s = 0; %s < %d; %s = %s + 1) begin : %s %s end ", variable, variable, below, variable, variable, label, items)
}

// times is a text so many times, with the number of each in the place of %.
func times(n int, text string) string {
	var out strings.Builder
	for i := range n {
		out.WriteString(strings.ReplaceAll(text, "%", strconv.Itoa(i)))
	}
	return out.String()
}

type dice uint32

func (d *dice) roll(n int) int {
	*d = *d*1664525 + 1013904223
	return int(*d>>8) % n
}

func (d *dice) one(list ...string) string {
	return list[d.roll(len(list))]
}
