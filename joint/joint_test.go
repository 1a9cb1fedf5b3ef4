package joint_test

import (
	"silkworm/api"
	"silkworm/joint"
	"silkworm/lp"
	"slices"
	"testing"
)

// wires is two delays of an input, in three parts, and an input of its own for the last one.
func wires() (api.Netlist, api.Parts, []api.Change) {
	in, delay := api.Node{Kind: api.NdIn, Wide: 1}, api.Node{Kind: api.NdDelay, Wide: 1, Ins: []int{0}, Time: 2}
	l := api.Netlist{Nodes: []api.Node{in, delay, delay, {Kind: api.NdIn, Wide: 2}}, Nets: []int{3, 2, 0, 1, 1}, Ports: 5}
	p := api.Parts{Of: []int{0, 1, 2, 2}, N: 3, Ahead: [][]int{{0, 2, 2}, {0, 0, 0}, {0, 0, 0}}}
	return l, p, []api.Change{{Time: 1, Net: 0, Value: "1z"}, {Time: 1, Net: 2, Value: "1"}}
}

func TestProcesses(t *testing.T) {
	l, p, stim := wires()
	list, e := joint.Processes(l, p, stim, 9)
	if len(list) != 3 || e != api.OK {
		t.Fatal(list, e)
	}
	for k, x := range list {
		y, _ := lp.New(l, p, k, stim, 9)
		if !slices.Equal(x.First(), y.First()) || x.Done() != -1 {
			t.Error(k, x.First(), x.Done())
		}
	}
	for _, n := range []int{0, -1, 2, 4, 65, -1 << 63, 1<<63 - 1} {
		p.N = n
		if list, e := joint.Processes(l, p, stim, 9); len(list) > 0 || e != api.ErrArg {
			t.Error(n, list, e)
		}
	}
	l.Nodes = append(l.Nodes, api.Node{Kind: api.NdOp, Op: api.OpNot, Wide: 1, Ins: []int{4}})
	for _, n := range []int{0, -1, 3, 1<<63 - 1} {
		p.N = n
		if list, e := joint.Processes(l, p, stim, 9); len(list) > 0 || e != api.ErrLoop {
			t.Error(n, list, e)
		}
	}
}

func TestModulo(t *testing.T) {
	for c, want := range map[[2]int]int{{0, 1}: 0, {7, 3}: 1, {2, 3}: 2, {-1, 4}: 3, {-1, 3}: 0, {-4, 4}: 0, {-1 << 63, 3}: 2, {1<<63 - 1, 2}: 1} {
		if got := joint.Modulo(c[0], c[1]); got != want {
			t.Error(c, got)
		}
	}
}

// What the processes tell comes together by times, then by nets, as far as it is ahead of a time.
func TestWave(t *testing.T) {
	l, p, stim := wires()
	list, _ := joint.Processes(l, p, stim, 9)
	for _, x := range []*lp.Process{list[0], list[0]} {
		out, _ := x.Step()
		for _, v := range out {
			list[p.Of[v.Node]].Take(v)
		}
	}
	for _, x := range slices.Concat(list[1:], list[1:], list[2:]) {
		x.Step()
	}
	all := []api.Change{{Time: 1, Net: 0, Value: "1z"}, {Time: 1, Net: 2, Value: "1"}, {Time: 3, Net: 1, Value: "1"}, {Time: 3, Net: 3, Value: "1"}, {Time: 3, Net: 4, Value: "1"}}
	for end, count := range []int{0, 0, 2, 2, 5, 5} {
		w := joint.Wave(l, p.Of, list, end)
		if !slices.Equal(w.Names, make([]string, 5)) || !slices.Equal(w.Wides, []int{2, 1, 1, 1, 1}) || !slices.Equal(w.First, []string{"xx", "x", "x", "x", "x"}) || !slices.Equal(w.List, all[:count]) {
			t.Error(end, w)
		}
	}
}
