package lower_test

import (
	"fmt"
	"reflect"
	"silkworm/api"
	"silkworm/elab"
	"silkworm/lexer"
	"silkworm/lower"
	"silkworm/pre"
	"silkworm/syntax"
	"slices"
	"strconv"
	"strings"
	"testing"
)

// readable is the flat design of a source, of which m is the top, if the layers below accept it.
func readable(source string) (api.Flat, []api.Diag) {
	l, why := lexer.Lex(source)
	if len(why) > 0 {
		return api.Flat{}, why
	}
	if l, why = pre.Run(l); len(why) > 0 {
		return api.Flat{}, why
	}
	m, why := syntax.Parse(l)
	if len(why) > 0 {
		return api.Flat{}, why
	}
	return elab.Build(m, "m")
}

func flatOf(t *testing.T, source string) api.Flat {
	t.Helper()
	f, why := readable(source)
	if len(why) > 0 {
		t.Fatalf("%.200q is not built: %v, %.60q", source, why, source[max(why[0].At-20, 0):])
	}
	return f
}

// lowered is the netlist of a flat design, of which all is told that hangs on no values.
func lowered(t *testing.T, f api.Flat) api.Netlist {
	t.Helper()
	l, e := lower.Run(f)
	if e != api.OK {
		t.Fatalf("refused: %d", e)
	}
	if lower.Check(l) != api.OK || !mayBe(l) {
		t.Fatalf("a netlist that may not be: %v", l)
	}
	if l.Ports != f.Ports || len(l.Nets) != f.Ports {
		t.Fatalf("%d ports and %d nets, not %d", l.Ports, len(l.Nets), f.Ports)
	}
	for i, n := range l.Nets {
		if node, net := l.Nodes[n], f.Nets[i]; node.Wide != net.Wide || (node.Kind == api.NdIn) != (net.Kind == api.NetIn) {
			t.Fatalf("the net %v is the node %v", net, node)
		}
	}
	if !hangsOnItself(f) && loops(l) {
		t.Fatalf("a loop that no net has: %v", l)
	}
	return l
}

func netlistOf(t *testing.T, source string) api.Netlist {
	t.Helper()
	return lowered(t, flatOf(t, source))
}

// stimulus is changes of inputs, told as "3 a 01": a time, a name, a value.
func stimulus(f api.Flat, list ...string) []api.Change {
	var out []api.Change
	for _, s := range list {
		words := strings.Fields(s)
		time, _ := strconv.Atoi(words[0])
		net := slices.IndexFunc(f.Nets, func(n api.Net) bool { return n.Name == words[1] })
		out = append(out, api.Change{Time: time, Net: net, Value: words[2]})
	}
	slices.SortStableFunc(out, func(a, b api.Change) int { return 1000*(a.Time-b.Time) + a.Net - b.Net })
	return out
}

// waveText is the first values, and the changes of the nets that are no inputs: "y x; 3 y 0".
func waveText(f api.Flat, w api.Wave) string {
	var out []string
	for i := range f.Ports {
		if f.Nets[i].Kind != api.NetIn {
			out = append(out, f.Nets[i].Name+" "+w.First[i])
		}
	}
	for _, c := range w.List {
		if f.Nets[c.Net].Kind != api.NetIn {
			out = append(out, fmt.Sprintf("%d %s %s", c.Time, f.Nets[c.Net].Name, c.Value))
		}
	}
	return strings.Join(out, "; ")
}

// waveIs tells the waveform of a source up to the time 20, but for its inputs: of the netlist, and of the flat design.
func waveIs(t *testing.T, source, want string, stim ...string) {
	t.Helper()
	f := flatOf(t, source)
	l := lowered(t, f)
	changes := stimulus(f, stim...)
	if loops(l) {
		t.Fatalf("%s: a loop", source)
	}
	flat, net := ofFlat(f).run(changes, 20), ofNetlist(l).run(changes, 20)
	if got := waveText(f, flat); got != want {
		t.Errorf("%s, %q: the flat design has\n%s, not\n%s", source, stim, got, want)
	}
	if got := waveText(f, net); got != want {
		t.Errorf("%s, %q: the netlist has\n%s, not\n%s", source, stim, got, want)
	}
	if !reflect.DeepEqual(flat.List, net.List) {
		t.Errorf("%s, %q: the changes are %v, and %v", source, stim, flat.List, net.List)
	}
}

// valueIs tells what an expression over inputs a, b of 2 bits, c of 1 and d of 4 is, when it drives a net of some bits.
func valueIs(t *testing.T, expr string, wide int, inputs, want string) {
	t.Helper()
	source := fmt.Sprintf("module m(input [1:0] a, input [1:0] b, input c, input [3:0] d, output [%d:0] y); assign y = %s; endmodule", wide-1, expr)
	f := flatOf(t, source)
	l := lowered(t, f)
	var stim []api.Change
	for i, v := range strings.Fields(inputs) {
		stim = append(stim, api.Change{Net: i, Value: v})
	}
	for i, s := range []*sim{ofFlat(f), ofNetlist(l)} {
		w := s.run(stim, 0)
		got := w.First[4]
		for _, c := range w.List {
			if c.Net == 4 {
				got = c.Value
			}
		}
		if got != want {
			t.Errorf("%s of %s, %d bits: %s, not %s (%s)", expr, inputs, wide, got, want, []string{"flat", "netlist"}[i])
		}
	}
}

// loops tells whether a netlist has a loop without delay.
func loops(l api.Netlist) bool {
	on := make([][]int, len(l.Nodes))
	for i, n := range l.Nodes {
		switch n.Kind {
		case api.NdFlip:
			on[i] = n.Ins[:1]
		case api.NdDelay:
		default:
			on[i] = n.Ins
		}
	}
	return circular(on)
}

// circular tells whether one of some things hangs on itself, by however many others.
func circular(on [][]int) bool {
	done := make([]bool, len(on))
	for again := true; again; {
		again = false
		for i, l := range on {
			if !done[i] && !slices.ContainsFunc(l, func(n int) bool { return !done[n] }) {
				done[i], again = true, true
			}
		}
	}
	return slices.Contains(done, false)
}

// times is a text so many times, with the number of each in the place of %.
func times(n int, text string) string {
	var out strings.Builder
	for i := range n {
		out.WriteString(strings.ReplaceAll(text, "%", strconv.Itoa(i)))
	}
	return out.String()
}

type dice uint32

func (d *dice) roll(n int) int {
	*d = *d*1664525 + 1013904223
	return int(*d>>8) % n
}

func (d *dice) one(list ...string) string {
	return list[d.roll(len(list))]
}
