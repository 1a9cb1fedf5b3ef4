package sema_test

import (
	"silkworm/api"
	"strings"
	"testing"
)

func TestSm1SureBehind(t *testing.T) {
	for _, body := range []string{
		"q = a;", "q = a; q = b;", "q = a; r = q; q = r;", "q = a; if (b) q = q;", "begin q = a; end r = q;",
		// An if.
		"if (a) q = b; else q = a;", "if (a) q = b; else q = a; r = q;", "if (a) begin q = 1; r = 2; end else begin r = q0; q = r; end", "if (a) if (b) q = 1; else q = 2; else q = 3;", "if (a) q = 1; q = 2;", "q = 0; if (a) begin end", "q = 0; if (a) q = 1;", "if (a) begin end else begin end", "if (a) begin end q = 1;",
		"if (a) begin q = 1; if (q) r = q; else r = 0; end else begin q = 0; r = 0; end s = q + r;", "q = 1; if (q) r = q; else r = ~q; s = r;",
		// A case.
		"case (a) default: q = 1; endcase", "case (a) default: q = 1; endcase r = q;", "case (a) 0: q = 1; 1: q = 2; default: q = 3; endcase r = q;", "q = 0; case (q) q: q = q; endcase r = q;", "q = 0; case (a) 0: q = 1; endcase", "q = 0; case (a) endcase", "case (a) endcase", "case (a) 0: begin end default: begin end endcase", "case (a) 0: case (b) default: q = 1; endcase default: if (a) q = 1; else q = 2; endcase s = q;",
		"q = 0; case (a) 0: r = q; default: r = 1; endcase s = r + q;",
	} {
		accepted(t, "wire q0; "+comb(body), loop("i", "f", "reg q, r, s; wire q0; "+comb(body)))
	}
	for _, body := range []string{
		"if (a) q = b;", "if (a) begin end else q = b;", "if (a) q = b; else r = b;", "if (a) begin q = b; r = b; end else r = b;", "if (a) if (b) q = 1; else q = 2;", "if (a) if (b) q = 1; else begin end else q = 3;", "if (a) q = 1; r = 1;", "if (a) q = 1; if (~a) q = 2;", "q = 1; if (a) r = 2;", "if (1) q = a;",
		"case (a) 0: q = 1; endcase", "case (a) 0: q = 1; 1: q = 2; endcase", "case (a) 0: q = 1; default: begin end endcase", "case (a) 0: begin end default: q = 1; endcase", "case (a) 0: q = 1; 1: r = 2; default: q = 3; endcase", "case (a) 0: q = 1; 1: begin end default: q = 3; endcase", "case (a) 0: if (b) q = 1; default: q = 1; endcase", "case (1) 1: q = 1; endcase",
	} {
		refused(t, api.ErrLatch, "$"+comb(body), loop("i", "f", "reg q, r; $"+comb(body)), clock("s <= a;")+"$"+comb(body))
		// With a clock, what is not assigned is kept.
		accepted(t, clock(strings.ReplaceAll(body, " = ", " <= ")))
	}
	// The places of an always are its own, not that of another one.
	refused(t, api.ErrLatch, comb("q = 1;")+"$"+comb("if (a) r = 1;"), "$"+comb("if (q) r = 1;")+comb("q = 1;"))
}

func TestSm1SureAt(t *testing.T) {
	for _, body := range []string{
		"q = $q;", "q = a + $q;", "q = $q[0];", "q = $q[a:b];", "q = a[$q];", "q = {a, $q, q};", "q = a ? $q : r; r = 1;", "r = $q; q = r;", "r = a; r = $q + r; q = 1;", "q = $r; r = 1;",
		"if ($q) q = 1; else q = 2;", "if ($q) begin end q = 1;", "if (a) q = $q; else q = 1;", "if (a) q = 1; else q = $q;", "if (a) begin q = 1; r = q; end else begin q = 2; r = $r; end", "if (a) r = 1; else r = $q; q = r;", "if (a) q = 1; r = $q; q = 1;", "if (a) q = 1; else r = $q; q = 1; r = 1;", "if (a) q = 1; if ($q) q = 2; q = 3;",
		"case ($q) 0: q = 1; default: q = 2; endcase", "case (a) $q: q = 1; default: q = 2; endcase", "case (a) 0: q = 1; $q: q = 2; default: q = 3; endcase", "case (a) 0: q = 1; 1: q = $q; default: q = 3; endcase", "case (a) 0: q = 1; default: q = $q; endcase", "case (a) 0: q = 1; 1: q = 2; endcase r = $q; q = 1;", "case (a) 0: q = 1; 1: r = $q; default: q = 3; endcase q = 1; r = 1;", "case (a) 0: q = 1; default: begin end endcase r = $q; q = 1;", "case (a) default: begin end endcase r = $q; q = 1;", "case (a) endcase r = $q; q = 1;",
		// The first of them, ahead of what is not sure behind all.
		"if (a) q = 1; r = $q + r; s = r;", "r = $q; s = q; if (a) q = r;", "case ($s) q: if (a) q = 1; endcase s = 1;",
	} {
		refused(t, api.ErrLatch, comb(body), loop("i", "f", "reg q, r, s; "+comb(body)))
		clean, _ := marked(body)
		accepted(t, clock(strings.ReplaceAll(clean, " = ", " <= ")))
	}
	// Names that are no targets of this always, and names of other scopes.
	accepted(t, comb("q = r + s;")+comb("r = q;"), comb("r = w + y + P + L + s;"), comb("if (r) q = r; else q = s;"), loop("i", "f", "reg q; "+comb("q = r;"))+comb("r = q;"), loop("i", "f", "reg c; "+comb("c = q;"))+comb("q = 1;"))
	refused(t, api.ErrLatch, loop("i", "f", "reg q; "+comb("q = $q;"))+comb("q = 1;"))
}

// bodies is all statements of so many levels that can be made of some parts, as texts.
func bodies(room int) []string {
	leaves := []string{"q = a;", "r = q;", "q = r;"}
	if room == 0 {
		return append(leaves, "begin end")
	}
	inner := bodies(room - 1)
	list := append([]string{}, inner...)
	for _, x := range inner {
		list = append(list, "if (a) "+blockOf(x), "case (q) r: "+blockOf(x)+" endcase", "case (a) default: "+blockOf(x)+" endcase")
		for _, y := range inner {
			list = append(list, x+" "+y, "if (q) "+blockOf(x)+" else "+blockOf(y), "case (a) r: "+blockOf(x)+" default: "+blockOf(y)+" endcase", "case (a) 1: "+blockOf(x)+" q: "+blockOf(y)+" endcase")
		}
	}
	return list
}

func blockOf(s string) string {
	return "begin " + s + " end"
}

// run is one way through statements: it tells the names that are read ahead of being assigned, by their places, and which are assigned.
type run struct {
	choose   func(n int) int
	assigned map[string]int
	early    map[int]string
}

func (r *run) stmts(l []api.Stmt) {
	for _, x := range l {
		r.read(x.Value)
		switch x.Kind {
		case api.StIf:
			r.stmts([][]api.Stmt{x.Body, x.Else}[r.choose(2)])
		case api.StCase:
			r.choice(x.Arms)
		default:
			r.assigned[x.Target]++
		}
	}
}

// choice reads the labels up to the arm that is taken; without a default none may be.
func (r *run) choice(l []api.Arm) {
	ways := len(l)
	if ways == 0 || !l[ways-1].Default {
		ways++
	}
	taken := r.choose(ways)
	for i, a := range l {
		if !a.Default {
			r.read(a.Label)
		}
		if i == taken {
			r.stmts(a.Body)
			return
		}
	}
}

func (r *run) read(x api.Expr) {
	if x.Name != "" && r.assigned[x.Name] == 0 {
		r.early[x.At] = x.Name
	}
	if x.Op != api.OpPart {
		for _, k := range x.Kids {
			r.read(k)
		}
	}
}

// ways calls a function with each way through statements.
func ways(l []api.Stmt, each func(*run)) {
	var taken, most []int
	for {
		at := 0
		r := run{assigned: map[string]int{}, early: map[int]string{}, choose: func(n int) int {
			if at == len(taken) {
				taken, most = append(taken, 0), append(most, n)
			}
			at++
			return taken[at-1]
		}}
		r.stmts(l)
		each(&r)
		for len(taken) > 0 && taken[len(taken)-1] == most[len(most)-1]-1 {
			taken, most = taken[:len(taken)-1], most[:len(most)-1]
		}
		if len(taken) == 0 {
			return
		}
		taken[len(taken)-1]++
	}
}

// latchOf is the reason of an always without a clock by all ways through it: the first place at which a target is read that was not assigned on one of them, or the always itself.
func latchOf(x api.Item) []api.Diag {
	targets, least, count := map[string]int{}, map[string]int{}, 0
	first := -1
	early := map[int]string{}
	ways(x.Body, func(r *run) {
		count++
		for name := range r.assigned {
			targets[name]++
			if r.assigned[name] > 0 {
				least[name]++
			}
		}
		for at, name := range r.early {
			early[at] = name
		}
	})
	whole := true
	for name := range targets {
		whole = whole && least[name] == count
	}
	for at, name := range early {
		if targets[name] > 0 && (first < 0 || at < first) {
			first = at
		}
	}
	switch {
	case first >= 0:
		return []api.Diag{{At: first, Code: api.ErrLatch}}
	case !whole:
		return []api.Diag{{At: x.At, Code: api.ErrLatch}}
	}
	return nil
}

// What is sure is what is assigned on all ways: all small bodies.
func TestSm1SureOnAllWays(t *testing.T) {
	counts := map[api.Errno]int{}
	for _, body := range bodies(2) {
		source := "module m(input a, output reg q, output reg r); always @(*) begin " + body + " end endmodule"
		m := modulesOf(t, source)
		want := latchOf(m[0].Items[0])
		checkIs(t, source, m, want)
		counts[codeOf(want)]++
	}
	if counts[api.OK] < 500 || counts[api.ErrLatch] < 5000 {
		t.Errorf("%v", counts)
	}
}
