package engine_test

import (
	"fmt"
	"silkworm/api"
	"silkworm/opt"
	"slices"
	"testing"
)

// choices is all nodes of one bit of a few kinds that may stand in a netlist of so many nodes.
func choices(count int, names ...string) []api.Node {
	var out []api.Node
	for _, name := range names {
		switch name {
		case "const":
			out = append(out, api.Node{Kind: api.NdConst, Wide: 1, Value: "1"})
		case "not", "delay@1", "delay@2":
			for i := range count {
				out = append(out, node([]string{name, "1", fmt.Sprint(i)}))
			}
		default:
			for i := range count * count {
				out = append(out, node([]string{name, "1", fmt.Sprint(i / count), fmt.Sprint(i % count)}))
			}
		}
	}
	return out
}

// all goes through all netlists of one input and so many other nodes of these, under some stimuli.
func all(t *testing.T, others int, of []api.Node, stims ...string) int {
	t.Helper()
	l := netlist("in 1")
	total := 1
	for i := range others {
		l.Nodes = append(l.Nodes, api.Node{})
		l.Nets = append(l.Nets, i+1)
		total *= len(of)
	}
	l.Ports = others + 1
	count := 0
	for number := range total {
		for i := range others {
			l.Nodes[i+1] = of[number%len(of)]
			number /= len(of)
		}
		if hasLoop(l) {
			refused(t, l, nil, 5, api.ErrLoop)
			continue
		}
		for _, stim := range stims {
			count += len(again(t, l, changes(stim), 7).List)
		}
	}
	return count
}

// All small netlists, held against what is told once more.
func TestEn1AllSmall(t *testing.T) {
	clock, odd := "0 0 0, 1 0 1, 2 0 0, 3 0 1, 4 0 0", "0 0 1, 1 0 x, 2 0 0, 4 0 z, 5 0 1"
	if n := all(t, 2, choices(3, "const", "not", "delay@1", "delay@2", "and", "xor", "flip"), clock, odd); n < 5000 {
		t.Error(n)
	}
	if n := all(t, 3, choices(4, "not", "delay@1", "flip"), clock); n < 30000 {
		t.Error(n)
	}
}

func TestEn1MadeUp(t *testing.T) {
	d := dice(1)
	count, z := 0, 0
	for range 6000 {
		l := makeNetlist(&d, 30)
		if hasLoop(l) {
			t.Fatalf("a loop: %s", shown(l))
		}
		for _, c := range again(t, l, makeStimulus(&d, l, 10), 14).List {
			count++
			if l.Nodes[l.Nets[c.Net]].Kind != api.NdIn && c.Value[0] == 'z' {
				z++
			}
		}
	}
	if count < 100000 || z < 500 {
		t.Errorf("%d changes, %d of z", count, z)
	}
}

// Larger ones, that go on for longer.
func TestEn1MadeUpLarge(t *testing.T) {
	d := dice(2)
	for range 100 {
		l := makeNetlist(&d, 400)
		again(t, l, makeStimulus(&d, l, 30), 40)
	}
}

// upTo is the changes up to a horizon.
func upTo(list []api.Change, horizon int) []api.Change {
	var out []api.Change
	for _, c := range list {
		if c.Time <= horizon {
			out = append(out, c)
		}
	}
	return out
}

// En2: a shorter horizon tells the beginning, whatever the stimulus is behind it.
func TestEn2Horizons(t *testing.T) {
	d := dice(3)
	for range 800 {
		l := makeNetlist(&d, 25)
		stim, other := makeStimulus(&d, l, 9), makeStimulus(&d, l, 12)
		whole := run(t, l, stim, 13)
		for horizon := range 14 {
			mixed := upTo(stim, horizon)
			for _, c := range other {
				if c.Time > horizon {
					mixed = append(mixed, c)
				}
			}
			for _, s := range [][]api.Change{stim, upTo(stim, horizon), mixed} {
				w := run(t, l, s, horizon)
				if !slices.Equal(w.First, whole.First) || !slices.Equal(w.List, upTo(whole.List, horizon)) {
					t.Fatalf("%s%v, %d: %v, not the beginning of %v", shown(l), s, horizon, w, whole)
				}
			}
		}
	}
}

// If nothing is to come any more, nothing comes, however far the horizon is.
func TestEn2FarHorizons(t *testing.T) {
	d := dice(4)
	quiet := 0
	for range 2000 {
		l := makeNetlist(&d, 12)
		for i, n := range l.Nodes {
			if n.Kind != api.NdIn {
				l.Nets = append(l.Nets, i)
			}
		}
		l.Ports = len(l.Nets)
		stim := makeStimulus(&d, l, 5)
		near := run(t, l, stim, 60)
		if n := len(near.List); n > 0 && near.List[n-1].Time > 40 {
			continue // it swings
		}
		quiet++
		far := run(t, l, stim, api.MaxTime)
		if !slices.Equal(far.List, near.List) {
			t.Fatalf("%s%v: %v, not %v", shown(l), stim, far, near)
		}
	}
	if quiet < 1000 {
		t.Error(quiet)
	}
}

// Whatever the numbers of the nodes are, and whatever passes are done: the waveform stays.
func TestEn1Optimised(t *testing.T) {
	d := dice(5)
	for range 1500 {
		l := makeNetlist(&d, 25)
		stim := makeStimulus(&d, l, 10)
		want := run(t, l, stim, 14)
		m, e := opt.Run(l, []string{d.one(opt.Passes()...), d.one(opt.Passes()...), "dead"})
		if e != api.OK {
			t.Fatal(e)
		}
		back := api.Netlist{Ports: l.Ports}
		last := len(l.Nodes) - 1
		for i := range l.Nodes {
			n := l.Nodes[last-i]
			n.Ins = slices.Clone(n.Ins)
			for k := range n.Ins {
				n.Ins[k] = last - n.Ins[k]
			}
			back.Nodes = append(back.Nodes, n)
		}
		for _, n := range l.Nets {
			back.Nets = append(back.Nets, last-n)
		}
		for _, other := range []api.Netlist{m, back} {
			if w := run(t, other, stim, 14); !slices.Equal(w.First, want.First) || !slices.Equal(w.List, want.List) {
				t.Fatalf("%s%v: %v, of\n%s%v", shown(l), stim, want, shown(other), w)
			}
		}
	}
}
