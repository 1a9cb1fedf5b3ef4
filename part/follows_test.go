package part_test

import (
	"silkworm/api"
	"silkworm/level"
	"silkworm/lower"
	"slices"
	"testing"
)

// choices is all nodes of one bit of a few kinds that may stand in a netlist of so many nodes.
func choices(count int) []api.Node {
	out := []api.Node{node("const")}
	for i := range count {
		out = append(out, node("not", i), node("delay", i, 2), node("delay", i, 3))
		for k := range count {
			out = append(out, node("flip", i, k))
		}
	}
	return out
}

// each goes through all lists of so many numbers that are below an end.
func each(count, end int, do func(list []int)) {
	list := make([]int, count)
	for {
		do(list)
		at := 0
		for at < count && list[at] == end-1 {
			list[at] = 0
			at++
		}
		if at == count {
			return
		}
		list[at]++
	}
}

// allSmall goes through all netlists of so many nodes.
func allSmall(count int, do func(l api.Netlist)) {
	of := choices(count)
	each(count, len(of), func(list []int) {
		l := api.Netlist{Nodes: make([]api.Node, count)}
		for i, k := range list {
			l.Nodes[i] = of[k]
		}
		do(l)
	})
}

// groupsOf is how many groups the nodes are in that no delay is between.
func groupsOf(l api.Netlist) int {
	list := labels(l)
	slices.Sort(list)
	return len(slices.Compact(list))
}

// Pa1, Pa2: each netlist of few nodes, in each number of parts. There are as many parts as there may be.
func TestPa1AllSmall(t *testing.T) {
	flat, looping := 0, 0
	for count := 1; count < 4; count++ {
		allSmall(count, func(l api.Netlist) {
			for n := 1; n < 5; n++ {
				if len(level.Loop(l)) > 0 {
					refused(t, l, n, api.ErrLoop)
					looping++
					continue
				}
				if p := parted(t, l, n); p.N != min(n, groupsOf(l)) {
					t.Fatalf("%s in %d: %s", shown(l), n, told(p))
				}
				flat++
			}
		})
	}
	if flat < 10000 || looping < 10000 {
		t.Errorf("%d have parts, %d have loops", flat, looping)
	}
}

// Pa1: whatever the parts of few nodes are.
func TestPa1CheckAllSmall(t *testing.T) {
	right, wrong := 0, 0
	try := func(l api.Netlist, p api.Parts) {
		want := api.ErrArg
		if mayBe(l, p) {
			want = api.OK
			right++
		} else {
			wrong++
		}
		checks(t, l, p, want)
	}
	for count := 1; count < 3; count++ {
		allSmall(count, func(l api.Netlist) {
			for parts := range 4 {
				each(count, 5, func(list []int) {
					of := make([]int, count)
					for i, k := range list {
						of[i] = k - 1
					}
					p := withAhead(l, of, parts)
					try(l, p)
					for i := range parts * parts {
						p.Ahead[i/parts][i%parts]++
						try(l, p)
						p.Ahead[i/parts][i%parts] -= 2
						try(l, p)
						p.Ahead[i/parts][i%parts]++
					}
				})
			}
		})
	}
	if right < 200 || wrong < 20000 {
		t.Errorf("%d may be, %d may not", right, wrong)
	}
}

// Pa2: nodes that no delay is between are of one part, in made-up netlists, too, and no part is much larger than another one: by one group at the most.
func TestPa2MadeUp(t *testing.T) {
	d := dice(2)
	many := 0
	for i := range 3000 {
		l := makeNetlist(&d, []int{20, 60, 200}[i%3], []int{0, 10, 40, 100}[i%4])
		if lower.Check(l) != api.OK || len(level.Loop(l)) > 0 {
			t.Fatalf("a test that may not be: %s", shown(l))
		}
		n := 1 + d.roll(64)
		p := parted(t, l, n)
		list := labels(l)
		sizes, load := make([]int, len(l.Nodes)), make([]int, p.N)
		for k, low := range list {
			if p.Of[k] != p.Of[low] {
				t.Fatalf("%s in %d: %s: %d and %d", shown(l), n, told(p), k, low)
			}
			sizes[low]++
			load[p.Of[k]]++
		}
		if p.N != min(n, groupsOf(l)) || slices.Max(load)-slices.Min(load) > slices.Max(sizes) {
			t.Fatalf("%s in %d: %s", shown(l), n, told(p))
		}
		if p.N > 10 {
			many++
		}
	}
	if many < 300 {
		t.Errorf("%d of many parts", many)
	}
}

// Parts that may be otherwise than Run made them: groups go anywhere.
func TestPa1OtherParts(t *testing.T) {
	d := dice(3)
	right, wrong := 0, 0
	for i := range 3000 {
		l := makeNetlist(&d, 40, []int{20, 50, 80}[i%3])
		list := labels(l)
		count := 1 + d.roll(min(6, groupsOf(l)))
		to, of := make([]int, len(l.Nodes)), make([]int, len(l.Nodes))
		for k := range to {
			to[k] = d.roll(count)
		}
		for k, low := range list {
			of[k] = to[low]
		}
		p := withAhead(l, of, count)
		want := api.OK
		if !mayBe(l, p) {
			want = api.ErrArg
			wrong++
		} else {
			right++
		}
		checks(t, l, p, want)
		// One node goes elsewhere, and Ahead with it: that may be, if it is alone.
		k := d.roll(len(of))
		of[k] = (of[k] + 1) % count
		p = withAhead(l, of, count)
		want = api.OK
		if !mayBe(l, p) {
			want = api.ErrArg
		}
		checks(t, l, p, want)
	}
	if right < 1000 || wrong < 100 {
		t.Errorf("%d may be, %d may not", right, wrong)
	}
}
