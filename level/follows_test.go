package level_test

import (
	"silkworm/api"
	"testing"
)

// told holds a netlist that may be against what is said of it once more, and tells whether it has levels.
func told(t *testing.T, l api.Netlist) bool {
	t.Helper()
	want, ok := levels(l)
	if ok {
		levelsAre(t, l, want)
	} else {
		hasLoop(t, l)
	}
	return ok
}

// choices is all nodes of one bit of a few kinds that may stand in a netlist of so many nodes.
func choices(count int, names ...string) []api.Node {
	var out []api.Node
	for _, name := range names {
		switch name {
		case "const":
			out = append(out, node(name))
		case "not", "delay":
			for i := range count {
				out = append(out, node(name, i))
			}
		default:
			for i := range count * count {
				out = append(out, node(name, i/count, i%count))
			}
		}
	}
	return out
}

// all goes through all netlists of so many nodes of these.
func all(t *testing.T, count int, of []api.Node) (flat, looping int) {
	t.Helper()
	l := api.Netlist{Nodes: make([]api.Node, count)}
	total := 1
	for range count {
		total *= len(of)
	}
	for number := range total {
		for i := range count {
			l.Nodes[i] = of[number%len(of)]
			number /= len(of)
		}
		if told(t, l) {
			flat++
		} else {
			looping++
		}
	}
	return flat, looping
}

// Lv2: each netlist of few nodes has levels, or a loop.
func TestLv2AllSmall(t *testing.T) {
	for count := range 4 {
		flat, looping := all(t, count, choices(count, "const", "not", "delay", "and", "flip"))
		if count > 1 && (flat < 20 || looping < 20) {
			t.Errorf("%d nodes: %d with levels, %d with loops", count, flat, looping)
		}
	}
	if flat, looping := all(t, 4, choices(4, "const", "flip")); flat < 1000 || looping < 1000 {
		t.Errorf("%d with levels, %d with loops", flat, looping)
	}
	if flat, looping := all(t, 5, choices(5, "const", "not", "delay")[:6]); flat < 1000 || looping < 1000 {
		t.Errorf("%d with levels, %d with loops", flat, looping)
	}
}

// makeNetlist is one of nodes of all kinds of one bit, numbered by chance. Of those that go in, some may come later: by share of 100.
func makeNetlist(d *dice, most, share int) api.Netlist {
	arities, names := arity(), []string{"in", "const", "delay", "flip", "not", "and", "wide", "same", "choose", "cond", "lt", "shl", "bit", "log", "part"}
	count := 1 + d.roll(most)
	number := make([]int, count)
	for i := range number {
		k := d.roll(i + 1)
		number[i] = number[k]
		number[k] = i
	}
	l := api.Netlist{Nodes: make([]api.Node, count)}
	for i := range count {
		name := d.one(names...)
		if i == 0 {
			name = d.one("in", "const")
		}
		goesIn := arities[name] + map[string]int{"delay": 1, "flip": 2}[name]
		var ins []int
		for k := range goesIn {
			in := max(0, i-1-d.roll(1+d.roll(i+1)))
			later := d.roll(100) < share
			if later || name == "delay" || name == "flip" && k == 1 {
				in = d.roll(count)
			}
			ins = append(ins, number[in])
		}
		l.Nodes[number[i]] = node(name, ins...)
		if name == "in" || d.roll(4) == 0 {
			l.Nets = append(l.Nets, number[i])
		}
	}
	l.Ports = len(l.Nets)
	return l
}

func TestLv2MadeUp(t *testing.T) {
	d := dice(1)
	flat, looping, high, long := 0, 0, 0, 0
	for i := range 20000 {
		l := makeNetlist(&d, 40, []int{0, 2, 8, 40}[i%4])
		if told(t, l) {
			flat++
			got, _ := levels(l)
			for _, n := range got {
				high = max(high, n)
			}
			continue
		}
		looping++
		long = max(long, len(hasLoop(t, l)))
	}
	if flat < 8000 || looping < 5000 || high < 15 || long < 8 {
		t.Errorf("%d with levels, the highest %d, %d with loops, the longest %d", flat, high, looping, long)
	}
}

// Larger ones, of hundreds of nodes.
func TestLv2MadeUpLarge(t *testing.T) {
	d := dice(2)
	for i := range 300 {
		told(t, makeNetlist(&d, 800, []int{0, 0, 1}[i%3]))
	}
}

// Whatever the numbers of the nodes are: the levels go with them.
func TestLv1Renumbered(t *testing.T) {
	d := dice(3)
	for range 2000 {
		l := makeNetlist(&d, 25, 0)
		want, ok := levels(l)
		if !ok {
			t.Fatal("a loop")
		}
		count := len(l.Nodes)
		back := api.Netlist{Nodes: make([]api.Node, count), Ports: l.Ports}
		turned := make([]int, count)
		for i, n := range l.Nodes {
			var ins []int
			for _, in := range n.Ins {
				ins = append(ins, count-1-in)
			}
			n.Ins = ins
			back.Nodes[count-1-i], turned[count-1-i] = n, want[i]
		}
		for _, n := range l.Nets {
			back.Nets = append(back.Nets, count-1-n)
		}
		levelsAre(t, back, turned)
	}
}
