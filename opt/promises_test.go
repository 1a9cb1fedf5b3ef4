package opt_test

import (
	"fmt"
	"reflect"
	"silkworm/api"
	"silkworm/elab"
	"silkworm/lexer"
	"silkworm/lower"
	"silkworm/opt"
	"silkworm/syntax"
	"slices"
	"strings"
	"testing"
)

// alike tells of each node which nodes are the same, said once more: at first all are, but for what they are alone and inputs, then one looks again at what goes in, till nothing changes.
func alike(l api.Netlist) []string {
	class := make([]string, len(l.Nodes))
	for count := -1; ; {
		numbers := map[string]string{}
		next := make([]string, len(l.Nodes))
		for i, n := range l.Nodes {
			text := fmt.Sprint(n.Kind, n.Op, n.Wide, n.Value, n.Hi, n.Lo, n.Time)
			if n.Kind == api.NdIn {
				text = fmt.Sprint("input ", i)
			}
			for _, in := range n.Ins {
				text += " " + class[in]
			}
			if numbers[text] == "" {
				numbers[text] = fmt.Sprint("c", len(numbers))
			}
			next[i] = numbers[text]
		}
		class = next
		if len(numbers) == count {
			return class
		}
		count = len(numbers)
	}
}

// still is the nodes that always are one constant, by whatever hangs on constants alone.
func still(l api.Netlist) map[int]bool {
	found := map[int]bool{}
	s := &sim{Netlist: l}
	for _, n := range l.Nodes {
		s.values = append(s.values, strings.Repeat("x", n.Wide))
	}
	for again := true; again; {
		again = false
		for i, n := range l.Nodes {
			on := n.Ins
			if n.Kind == api.NdFlip {
				on = n.Ins[:1]
			}
			ok := n.Kind != api.NdIn && !found[i] && !slices.ContainsFunc(on, func(in int) bool { return !found[in] })
			if n.Kind == api.NdDelay && ok {
				ok = strings.Trim(s.values[n.Ins[0]], "x") == ""
			}
			if ok {
				found[i], again = true, true
				if v, gate := s.gate(n); gate {
					s.values[i] = v
				}
			}
		}
	}
	return found
}

// behind tells what must be so right behind a pass and dead, or dead and that pass.
func behind(t *testing.T, pass string, ahead, l api.Netlist) {
	t.Helper()
	wrong := func(what string, i int) {
		t.Helper()
		t.Fatalf("behind %s: of\n%s%s, at %d:\n%s", pass, shown(ahead), what, i, shown(l))
	}
	ports := map[int]bool{}
	for _, n := range l.Nets {
		ports[n] = true
	}
	switch pass {
	case "share":
		class := alike(l)
		for i := range l.Nodes {
			if k := slices.Index(class, class[i]); k != i {
				wrong(fmt.Sprintf("the same as %d", k), i)
			}
		}
	case "fold":
		for i := range still(l) {
			if l.Nodes[i].Kind != api.NdConst {
				wrong("no constant", i)
			}
		}
	case "wire":
		for i, n := range l.Nodes {
			if n.Kind == api.NdWide && n.Wide == l.Nodes[n.Ins[0]].Wide && !(ports[i] && l.Nodes[n.Ins[0]].Kind == api.NdIn) {
				wrong("just another node", i)
			}
			if n.Kind == api.NdChoose && n.Ins[1] == n.Ins[2] {
				wrong("a choice of one node", i)
			}
		}
	}
	if n := len(reachedBy(l)); n != len(l.Nodes) {
		wrong("one that no port hangs on", n)
	}
}

func TestOp1BehindMadeUp(t *testing.T) {
	d := dice(3)
	fewer := map[string]int{}
	for i := range 3000 {
		l := makeNetlist(&d, 30, false)
		plain := done(t, l, "dead")
		behind(t, "dead", l, plain)
		for _, pass := range opt.Passes() {
			m := done(t, l, pass, "dead")
			behind(t, pass, l, m)
			behind(t, pass, l, done(t, l, "dead", pass))
			if len(m.Nodes) < len(plain.Nodes) {
				fewer[pass]++
			}
			if pass == "share" && i%4 == 0 {
				count := map[string]bool{}
				for _, class := range alike(plain) {
					count[class] = true
				}
				if len(m.Nodes) != len(count) {
					t.Fatalf("%d nodes, not %d, of\n%s", len(m.Nodes), len(count), shown(plain))
				}
			}
		}
	}
	if fewer["fold"] < 200 || fewer["share"] < 1000 || fewer["wire"] < 1000 {
		t.Error(fewer)
	}
}

// Whatever passes are done, however often: the waveform stays.
func TestOp2MadeUp(t *testing.T) {
	d := dice(5)
	changes, less := 0, 0
	for range 1500 {
		l := makeNetlist(&d, 25, false)
		if loops(l) {
			t.Fatal("a loop")
		}
		var passes []string
		for range 1 + d.roll(6) {
			passes = append(passes, d.one(opt.Passes()...))
		}
		m := done(t, l, passes...)
		for range 2 {
			stim, horizon := makeStimulus(&d, l), d.roll(20)
			want, got := waveOf(l, stim, horizon), waveOf(m, stim, horizon)
			if !reflect.DeepEqual(got, want) {
				t.Fatalf("%v of\n%sis\n%sunder %v up to %d:\n%v\nnot\n%v", passes, shown(l), shown(m), stim, horizon, got, want)
			}
			changes += len(want.List)
		}
		if len(m.Nodes) < len(l.Nodes) {
			less++
		}
	}
	if changes < 20000 || less < 1000 {
		t.Errorf("%d changes, %d are smaller", changes, less)
	}
}

// Sources all the way: optimised or not, the waveform stays.
func TestOp2Sources(t *testing.T) {
	d := dice(9)
	for _, source := range []string{
		"module m(input c, input r, output reg [2:0] q, output [2:0] y); always @(posedge c) if (r) q <= 0; else q <= q + 1; assign y = q; endmodule",
		"module m(input c, input [1:0] s, input [3:0] a, output reg [3:0] q, output z); always @(*) case (s) 0: q = a; 1: q = ~a; 2: q = a & 4'b0; default: q = c ? a : a; endcase assign #2 z = q[s]; endmodule",
		"module g(input a, input b, output y); assign #1 y = a ^ b; endmodule module m(input a, input b, output y, output w, output k); wire open; g u (.a(a), .b(b), .y(y)); g v (.a(a), .b(b), .y(w)); assign k = open; endmodule",
		"module m(input c, input a, output reg p, output reg q, output y, output [7:0] n); always @(posedge c) begin p <= a; q <= p; end reg r; always @(posedge c) r <= a; assign y = r ^ p; assign n = 1 + 2 << 1; endmodule",
		"module m(input c, output reg a, output reg b); always @(posedge c) a <= ~a; always @(posedge a) b <= c ? 1 : 0; wire k; assign k = ~b; endmodule",
	} {
		l := lowered(t, source)
		for range 40 {
			var passes []string
			for range 1 + d.roll(5) {
				passes = append(passes, d.one(opt.Passes()...))
			}
			m := done(t, l, passes...)
			stim := makeStimulus(&d, l)
			if want, got := waveOf(l, stim, 15), waveOf(m, stim, 15); !reflect.DeepEqual(got, want) {
				t.Fatalf("%v of %s under %v:\n%v\nnot\n%v", passes, source, stim, got, want)
			}
		}
		if m := done(t, l, "fold", "wire", "share", "dead"); len(m.Nodes) >= len(l.Nodes) {
			t.Errorf("%s: %d nodes are still %d", source, len(l.Nodes), len(m.Nodes))
		}
	}
}

func lowered(t *testing.T, source string) api.Netlist {
	t.Helper()
	l, _ := lexer.Lex(source)
	modules, _ := syntax.Parse(l)
	f, why := elab.Build(modules, "m")
	n, e := lower.Run(f)
	if len(why) > 0 || e != api.OK || n.Ports == 0 {
		t.Fatalf("%s: %v, %d", source, why, e)
	}
	return n
}

// All short lists of passes, each of a few netlists.
func TestOp2AllLists(t *testing.T) {
	lists := [][]string{nil}
	for i := 0; len(lists[i]) < 4; i++ {
		for _, pass := range opt.Passes() {
			lists = append(lists, append(slices.Clone(lists[i]), pass))
		}
	}
	d := dice(6)
	for _, passes := range lists {
		for range 4 {
			l := makeNetlist(&d, 20, false)
			m := done(t, l, passes...)
			stim := makeStimulus(&d, l)
			if want, got := waveOf(l, stim, 15), waveOf(m, stim, 15); !reflect.DeepEqual(got, want) {
				t.Fatalf("%v of\n%sis\n%sunder %v:\n%v\nnot\n%v", passes, shown(l), shown(m), stim, got, want)
			}
			if slices.Contains(passes, "dead") && len(reachedBy(m)) != len(m.Nodes) {
				t.Fatalf("%v of\n%sis\n%s", passes, shown(l), shown(m))
			}
		}
	}
}

// A list of passes is its first ones, and then its others.
func TestOp1ListsMadeUp(t *testing.T) {
	d := dice(7)
	for i := range 1500 {
		l := makeNetlist(&d, 25, i%3 == 0)
		var passes []string
		for range d.roll(7) {
			passes = append(passes, d.one(opt.Passes()...))
		}
		whole := done(t, l, passes...)
		k := d.roll(len(passes) + 1)
		if parts := done(t, done(t, l, passes[:k]...), passes[k:]...); !reflect.DeepEqual(whole, parts) {
			t.Fatalf("%v, then %v, of\n%s:\n%snot\n%s", passes[:k], passes[k:], shown(l), shown(parts), shown(whole))
		}
		if len(passes) > 0 {
			last := passes[len(passes)-1]
			if again := done(t, whole, last); len(again.Nodes) > len(whole.Nodes) || !loops(l) && !reflect.DeepEqual(again, whole) {
				t.Fatalf("%s once more, of\n%s:\n%s", last, shown(whole), shown(again))
			}
		}
	}
}

// Of a netlist with loops some netlist comes that may be.
func TestOp1Loops(t *testing.T) {
	d := dice(8)
	looping := 0
	for range 1500 {
		l := makeNetlist(&d, 20, true)
		if loops(l) {
			looping++
		}
		for _, pass := range opt.Passes() {
			done(t, l, pass)
			done(t, l, pass, "dead", d.one(opt.Passes()...))
		}
	}
	if looping < 500 {
		t.Errorf("%d loops", looping)
	}
	for _, text := range []string{
		"wide 1 0 | 0", "wide 1 1; wide 1 0 | 0 1", "wide 1 1; wide 1 2; wide 1 0; not 1 1 | 3 0", "choose 1 0 0 0 | 0", "in 1; choose 1 0 2 2; wide 1 1 | 0 1 2", "cond 1 1 1 1; wide 1 0 | 1", "in 1; flip 1 1 1 | 0 1",
		"in 1; flip 1 2 0; not 1 1 | 0 1", "not 1 0; not 1 1; same 1 0 1 | 2", "in 1; cond 1 0 2 2; cond 1 0 1 1 | 0 1 2", "part 1 0 0 1; cat 1 0 | 0 1",
	} {
		for _, pass := range opt.Passes() {
			done(t, netlist(text), pass)
			done(t, netlist(text), pass, "dead")
		}
	}
}
