package lp_test

import (
	"silkworm/api"
	"silkworm/engine"
	"silkworm/lp"
	"silkworm/part"
	"slices"
	"testing"
)

// refused tells that there is no such process, and why.
func refused(t *testing.T, l api.Netlist, p api.Parts, k int, stim []api.Change, horizon int, want api.Errno) {
	t.Helper()
	if x, e := lp.New(l, p, k, stim, horizon); x != nil || e != want {
		t.Errorf("%s%v, %d, %v, %d: %v, %d, not %d", brief(shown(l)), p, k, stim, horizon, x, e, want)
	}
}

// Lp1, R2: what layer 12 refuses comes first, then parts, then the number of the process.
func TestLp1NewWrong(t *testing.T) {
	l := netlist(wire)
	p := parts(l, "0 1")
	stim := changes("3 0 1")
	for _, k := range []int{-1, 2, 3, least, most} {
		refused(t, l, p, k, stim, 9, api.ErrArg)
	}
	refused(t, l, parts(l, "0 0"), 1, stim, 9, api.ErrArg)
	for _, horizon := range []int{-1, least, api.MaxTime + 1, most} {
		refused(t, l, p, 0, stim, horizon, api.ErrArg)
	}
	for _, bad := range []string{"3 1 1", "3 2 1", "3 -1 1", "-1 0 1", "3 0 11", "3 0 2", "3 0 1, 3 0 1", "3 0 1, 2 0 1"} {
		refused(t, l, p, 0, changes(bad), 9, api.ErrArg)
		refused(t, l, p, 1, changes(bad), 9, api.ErrArg)
	}
	refused(t, l, p, 0, []api.Change{{Time: api.MaxTime + 1, Value: "1"}}, 9, api.ErrArg)
	for _, q := range []api.Parts{
		{}, {Of: []int{0, 1}, N: 2}, {Of: []int{0}, N: 1, Ahead: [][]int{{0}}}, {Of: []int{0, 1}, N: 1, Ahead: [][]int{{0}}}, {Of: []int{0, 2}, N: 3, Ahead: [][]int{{0, 0, 2}, {0, 0, 0}, {0, 0, 0}}},
		{Of: []int{0, 1}, N: 2, Ahead: [][]int{{0, 1}, {0, 0}}}, {Of: []int{0, 1}, N: 2, Ahead: [][]int{{0, 2}, {2, 0}}}, {Of: []int{0, 1}, N: 2, Ahead: [][]int{{0, 2}}}, {Of: []int{0, -1}, N: 1, Ahead: [][]int{{0}}},
	} {
		for _, k := range []int{-1, 0, 1} {
			refused(t, l, q, k, stim, 9, api.ErrArg)
		}
	}
	not := netlist("in 1; not 1 0")
	refused(t, not, parts(not, "0 1"), 0, nil, 9, api.ErrArg)
	refused(t, api.Netlist{}, api.Parts{}, 0, nil, 9, api.ErrArg)
	refused(t, api.Netlist{}, api.Parts{N: 1, Ahead: [][]int{{0}}}, 0, nil, 9, api.ErrArg)
	l.Ports = 3
	refused(t, l, p, 0, stim, 9, api.ErrArg)
	loop := netlist("in 1; not 1 2; not 1 1; delay@1 1 1")
	for _, of := range []string{"0 0 0 0", "0 1 1 2", "0 1 0 2"} {
		for _, k := range []int{-1, 0, 9} {
			refused(t, loop, parts(loop, of), k, stim, 9, api.ErrLoop)
		}
		refused(t, loop, parts(loop, of), 0, changes("3 1 1"), 9, api.ErrArg)
		refused(t, loop, parts(loop, of), 0, stim, -1, api.ErrArg)
	}
	refused(t, loop, api.Parts{}, 0, stim, 9, api.ErrLoop)
	// A clock that hangs on the flip-flop is a loop, data that does is none.
	loop = netlist("const 1; flip 1 2 0; not 1 1")
	refused(t, loop, parts(loop, "0 0 0"), 0, nil, 9, api.ErrLoop)
	flip := netlist("in 1; flip 1 0 2; not 1 1")
	process(t, flip, parts(flip, "0 0 0"), 0, nil, 9)
}

// What New refuses is just what layers 12 and 13 do.
func TestLp1NewMadeUp(t *testing.T) {
	d := dice(20)
	count := map[api.Errno]int{}
	for range 4000 {
		l := makeNetlist(&d, 1+d.roll(3), 4)
		p := parted(t, l, 1+d.roll(3))
		stim, horizon, k := makeStimulus(&d, l, 4), d.roll(8), d.roll(p.N)
		switch at := d.roll(len(l.Nodes)); d.roll(9) {
		case 0:
			l.Nodes[at].Wide += d.roll(3) - 1
		case 1:
			if ins := l.Nodes[at].Ins; len(ins) > 0 {
				ins[d.roll(len(ins))] = d.roll(len(l.Nodes)+2) - 1
			}
		case 2:
			p.Of[at] = d.roll(p.N+2) - 1
		case 3:
			p.Ahead[d.roll(p.N)][d.roll(p.N)] += d.roll(3) - 1
		case 4:
			p.N += d.roll(3) - 1
		case 5:
			k = d.roll(p.N+3) - 1
		case 6:
			if len(stim) > 0 {
				stim[d.roll(len(stim))] = api.Change{Time: d.roll(6) - 1, Net: d.roll(6) - 1, Value: d.one("", "0", "1x", "y")}
			}
		case 7:
			horizon = -d.roll(3)
		}
		want := engine.Check(l, stim, horizon)
		if want == api.OK && (part.Check(l, p) != api.OK || k < 0 || k >= p.N) {
			want = api.ErrArg
		}
		count[want]++
		if want != api.OK {
			refused(t, l, p, k, stim, horizon, want)
		} else {
			process(t, l, p, k, stim, horizon)
		}
	}
	if count[api.OK] < 1000 || count[api.ErrArg] < 700 || count[api.ErrLoop] < 10 {
		t.Error(count)
	}
}

func TestLp2TakeWrong(t *testing.T) {
	text, parting := "in 1; delay@2 1 0; in 2; delay@2 2 2; delay@1 1 1; not 1 1; delay@2 1 5; const 1; delay@1 1 7", "0 1 2 1 1 1 0 1 2"
	x := of(t, text, parting, 1, "", 9)
	right := ev(3, 1, "1", 0, 1)
	try := func(e api.Event) {
		t.Helper()
		takes(t, x, e, api.ErrArg)
		// That it is ErrArg counts more than its time.
		for _, time := range []int{-1, least, api.MaxTime + 1, most, 0} {
			e.Time = time
			takes(t, x, e, api.ErrArg)
		}
	}
	for node := range 10 {
		if node != 1 {
			try(ev(3, node, "1", 0, 1))
		}
		try(ev(3, node, "1", 1, 1))
		try(ev(3, node, "1", 2, 1))
	}
	for _, node := range []int{0, 2, 4, 5, 6, 7, 8, 9, -1, least, most} {
		for from := range 5 {
			try(ev(3, node, "1", from-1, 1))
		}
	}
	for _, from := range []int{-1, 1, 2, 3, 9, least, most, 1 << 32} {
		try(ev(3, 1, "1", from, 1))
	}
	for _, v := range []string{"", "11", "2", "X", "Z", " ", "\x00", "\xff", "1 ", "é"} {
		try(ev(3, 1, v, 0, 1))
	}
	for _, v := range []string{"1", "101", "1é", "é", "0X", ""} {
		try(ev(3, 3, v, 2, 1))
	}
	steps(t, x, 0, ev(1, 8, "1", 1, 1))
	takes(t, x, right, api.OK)
	for _, v := range []string{"0", "1", "x", "z"} {
		takes(t, x.Copy(), ev(4, 1, v, 0, 2), api.OK)
	}
	takes(t, x, api.Event{Time: 3, Node: 3, Value: "zx", From: 2, Seq: 1}, api.OK)
	steps(t, x, 3, ev(5, 6, "0", 1, 3))
	steps(t, x, 4)
	rests(t, x)
	tells(t, x, 1, "3 1 1, 3 3 zx, 3 5 0, 4 4 1")
}

// R2: what is no event for it, then its time, then what the queue refuses.
func TestLp2TakeOrder(t *testing.T) {
	x := of(t, wire, "0 1", 1, "", 20)
	anti := func(e api.Event) api.Event {
		e.Anti = true
		return e
	}
	takes(t, x, ev(-1, 1, "1", 0, 1), api.ErrStage)
	takes(t, x, ev(least, 1, "1", 0, 1), api.ErrStage)
	takes(t, x, anti(ev(-1, 1, "1", 0, 1)), api.ErrStage)
	takes(t, x, anti(ev(0, 1, "1", 0, 1)), api.ErrArg)
	takes(t, x, anti(ev(most, 1, "1", 0, 1)), api.ErrArg)
	takes(t, x, ev(5, 1, "1", 0, 1), api.OK)
	steps(t, x, 0)
	takes(t, x, ev(0, 1, "1", 0, 2), api.ErrStage)
	takes(t, x, anti(ev(0, 1, "1", 0, 1)), api.ErrStage)
	takes(t, x, ev(0, 1, "1", 0, 1), api.ErrStage)
	takes(t, x, ev(1, 1, "1", 0, 1), api.ErrArg)
	takes(t, x, ev(most, 1, "1", 0, 1), api.ErrArg)
	takes(t, x, ev(most, 1, "1", 0, 2), api.ErrTime)
	takes(t, x, ev(api.MaxTime+1, 1, "1", 0, 2), api.ErrTime)
	steps(t, x, 5)
	takes(t, x, ev(5, 1, "0", 0, 2), api.ErrStage)
	takes(t, x, ev(4, 1, "0", 0, 2), api.ErrStage)
	takes(t, x, ev(5, 1, "2", 0, 2), api.ErrArg)
	// A number that was gone through is free.
	takes(t, x, ev(6, 1, "0", 0, 1), api.OK)
	for _, seq := range []int{0, -1, least, most} {
		takes(t, x, ev(7, 1, "1", 0, seq), api.OK)
		takes(t, x, ev(8, 1, "1", 0, seq), api.ErrArg)
	}
	steps(t, x, 6)
	steps(t, x, 7)
	rests(t, x)
	tells(t, x, 0, "5 1 1, 6 1 0, 7 1 1")
}

// nothing tells that a process is none that New and Copy gave.
func nothing(t *testing.T, x *lp.Process) {
	t.Helper()
	for range 2 {
		if time, ok := x.Next(); time != 0 || ok {
			t.Error("Next", time, ok)
		}
		if x.Done() != -1 {
			t.Error("Done", x.Done())
		}
		for _, e := range []api.Event{{}, ev(1, 1, "1", 0, 1), ev(-1, 0, "", 0, 0), ev(most, most, "1", most, most), {Anti: true}} {
			takes(t, x, e, api.ErrArg)
		}
		cancels(t, x, 0, 1, false)
		cancels(t, x, 1, 1, false)
		cancels(t, x, 0, 0, false)
		if out, e := x.Step(); len(out) > 0 || e != api.ErrArg {
			t.Error("Step", out, e)
		}
		if list := x.First(); len(list) > 0 {
			t.Error("First", list)
		}
		for _, from := range []int{0, -1, least, most} {
			if list := x.Changes(from); len(list) > 0 {
				t.Error("Changes", list)
			}
		}
		if c := x.Copy(); c != nil {
			t.Error("Copy", c)
		}
	}
}

// R1: of a process that New and Copy did not give nothing is told.
func TestR1NotGiven(t *testing.T) {
	nothing(t, nil)
	nothing(t, &lp.Process{})
	nothing(t, new(lp.Process))
	x := of(t, wire, "0 1", 1, "", 9)
	takes(t, x, ev(3, 1, "1", 0, 1), api.OK)
	copied := *x
	nothing(t, &copied)
	steps(t, x, 0)
	steps(t, x, 3)
	copied = *x
	nothing(t, &copied)
	copied = *x.Copy()
	nothing(t, &copied)
	tells(t, x, 0, "3 1 1")
	rests(t, x)
}

// spoil writes to all of what was handed in, and to the room behind the ends of its lists. Netlists may be shared: those stay.
func spoil(p api.Parts, stim []api.Change) {
	for _, list := range append([][]int{p.Of}, p.Ahead...) {
		for i := range list[:cap(list)] {
			list[:cap(list)][i] = 77
		}
	}
	for i := range stim[:cap(stim)] {
		stim[:cap(stim)][i] = api.Change{Time: -5, Net: 99, Value: "?"}
	}
}

// roomy is a list with something strange behind its end.
func roomy[T any](list []T, more ...T) []T {
	return append(append([]T{}, list...), more...)[:len(list)]
}

// R3: nothing that was handed in is changed, kept, or read behind its end; nobody else has an answer's lists.
func TestR3Lists(t *testing.T) {
	d := dice(30)
	for range 300 {
		l := makeNetlist(&d, 1+d.roll(4), 8)
		p := parted(t, l, 1+d.roll(4))
		stim := makeStimulus(&d, l, 8)
		k := d.roll(p.N)
		r := api.Netlist{Nodes: roomy(l.Nodes, api.Node{Kind: 99}), Nets: roomy(l.Nets, -4, 1), Ports: l.Ports}
		for i, n := range r.Nodes {
			r.Nodes[i].Ins = roomy(n.Ins, 1<<40, -1)
		}
		q := api.Parts{Of: roomy(p.Of, 5, -5), N: p.N, Ahead: roomy(p.Ahead, nil, []int{3})}
		for i, list := range q.Ahead {
			q.Ahead[i] = roomy(list, 9)
		}
		s := roomy(stim, api.Change{Time: 1, Value: "1"}, api.Change{Time: 9})
		before := shown(r)
		x := process(t, r, q, k, s, 12)
		if shown(r) != before || !slices.Equal(s, stim) || !slices.Equal(q.Of, p.Of) || s[:cap(s)][len(s)] != (api.Change{Time: 1, Value: "1"}) {
			t.Fatalf("%s: changed", before)
		}
		spoil(q, s)
		b := pair{x: x, m: newModel(l, p, k, stim, 12)}
		b.look(t)
		for range 15 {
			out, _ := b.x.Step()
			want, _ := b.m.step()
			if !slices.Equal(out, want) {
				t.Fatalf("%s: %v, not %v", before, out, want)
			}
			spoilAnswers(out, x.First(), x.Changes(0), x.Changes(x.Done()))
			b.look(t)
		}
		if shown(r) != before {
			t.Fatalf("%s: changed", before)
		}
	}
}

func spoilAnswers(out []api.Event, first []string, lists ...[]api.Change) {
	for i := range out[:cap(out)] {
		out[:cap(out)][i] = api.Event{Time: -1, Value: "?"}
	}
	for i := range first[:cap(first)] {
		first[:cap(first)][i] = "?"
	}
	for _, list := range lists {
		for i := range list[:cap(list)] {
			list[:cap(list)][i] = api.Change{Time: -1, Value: "?"}
		}
	}
}

// nil and the empty list are the same.
func TestR3Empty(t *testing.T) {
	l := api.Netlist{Nodes: []api.Node{{Kind: api.NdConst, Wide: 1, Value: "1", Ins: []int{}}, {Kind: api.NdDelay, Wide: 1, Ins: []int{0}, Time: 2}}, Nets: []int{}}
	m := l
	m.Nets = nil
	for _, n := range []api.Netlist{l, m} {
		for _, stim := range [][]api.Change{nil, {}} {
			x := process(t, n, parts(n, "0 1"), 0, stim, 9)
			firsts(t, x, "")
			steps(t, x, 0, ev(2, 1, "1", 0, 1))
			rests(t, x)
			tells(t, x, 0, "")
		}
	}
}

// R4: once more the same is told, whatever others do.
func TestR4Again(t *testing.T) {
	d := dice(31)
	for range 100 {
		l := makeNetlist(&d, 3, 8)
		p := parted(t, l, 3)
		stim := makeStimulus(&d, l, 8)
		r := newRun(t, l, p, stim, 12)
		r.inOrder(t, &d)
		for k := range p.N {
			x, y := process(t, l, p, k, stim, 12), process(t, l, p, k, stim, 12)
			for _, e := range r.told {
				if p.Of[e.Node] == k {
					takes(t, x, e, api.OK)
					takes(t, y, e, api.OK)
				}
			}
			for range 14 {
				out, e := x.Step()
				same, is := y.Step()
				if !slices.Equal(out, same) || e != is {
					t.Fatal(out, e, same, is)
				}
			}
			if !slices.Equal(x.Changes(0), y.Changes(0)) || !slices.Equal(x.Changes(0), r.pairs[k].x.Changes(0)) {
				t.Fatal(x.Changes(0), y.Changes(0))
			}
		}
	}
}
