package lp_test

import (
	"cmp"
	"fmt"
	"silkworm/api"
	"silkworm/engine"
	"silkworm/part"
	"slices"
	"testing"
)

// run is a netlist in parts under a stimulus: its processes, and what they tell one another.
type run struct {
	l       api.Netlist
	p       api.Parts
	stim    []api.Change
	horizon int
	pairs   []pair
	told    []api.Event // to others, all of them
}

func newRun(t *testing.T, l api.Netlist, p api.Parts, stim []api.Change, horizon int) *run {
	t.Helper()
	r := &run{l: l, p: p, stim: stim, horizon: horizon}
	for k := range p.N {
		r.pairs = append(r.pairs, newPair(t, l, p, k, stim, horizon))
	}
	return r
}

// soonest is the processes that have the least next time; none: all are through.
func (r *run) soonest() []int {
	least := r.horizon + 1
	var list []int
	for k, b := range r.pairs {
		time, ok := b.x.Next()
		if ok && time < least {
			least, list = time, nil
		}
		if ok && time == least {
			list = append(list, k)
		}
	}
	return list
}

// tell tells an event to the process that it is for.
func (r *run) tell(t *testing.T, e api.Event) {
	t.Helper()
	if why := r.pairs[r.p.Of[e.Node]].take(t, e); why != api.OK {
		t.Fatalf("%s%v, %v: %v is refused: %d", shown(r.l), r.p, r.stim, e, why)
	}
}

// inOrder goes through all times, the soonest first, one of those of one time by chance. What is sent comes at once, or just ahead of its time.
func (r *run) inOrder(t *testing.T, d *dice) {
	t.Helper()
	var kept []api.Event
	for {
		now := r.soonest()
		time := r.horizon
		if len(now) > 0 {
			time, _ = r.pairs[now[0]].x.Next()
		}
		var late []api.Event
		for _, e := range kept {
			if e.Time <= time || d.roll(4) == 0 {
				r.tell(t, e)
			} else {
				late = append(late, e)
			}
		}
		again := len(late) < len(kept)
		kept = late
		if again {
			continue
		}
		if len(now) == 0 {
			return
		}
		out, e := r.pairs[now[d.roll(len(now))]].step(t)
		if e != api.OK {
			t.Fatalf("%s%v, %v: %d", shown(r.l), r.p, r.stim, e)
		}
		r.told = append(r.told, out...)
		kept = append(kept, out...)
	}
}

// alone goes through all times of one process after the other, each being told all ahead, by chance.
func (r *run) alone(t *testing.T, d *dice, told []api.Event) {
	t.Helper()
	for _, i := range d.order(len(told)) {
		r.tell(t, told[i])
	}
	for _, b := range r.pairs {
		for _, ok := b.x.Next(); ok; _, ok = b.x.Next() {
			out, _ := b.step(t)
			r.told = append(r.told, out...)
		}
	}
}

// wave is what all processes tell together: first values, and changes.
func (r *run) wave(t *testing.T) ([]string, []api.Change) {
	t.Helper()
	first := make([]string, len(r.l.Nets))
	var list []api.Change
	for k, b := range r.pairs {
		for net, v := range b.x.First() {
			if (v != "") != (r.p.Of[r.l.Nets[net]] == k) {
				t.Fatalf("%s%v, %d: First %q", shown(r.l), r.p, k, b.x.First())
			}
			first[net] += v
		}
		list = append(list, b.x.Changes(0)...)
	}
	slices.SortFunc(list, func(a, b api.Change) int { return cmp.Or(cmp.Compare(a.Time, b.Time), cmp.Compare(a.Net, b.Net)) })
	return first, list
}

// holds tells that what the processes tell is the netlist's waveform.
func (r *run) holds(t *testing.T) int {
	t.Helper()
	w, e := engine.Run(r.l, r.stim, r.horizon)
	if e != api.OK {
		t.Fatalf("%s%v: %d", shown(r.l), r.stim, e)
	}
	first, list := r.wave(t)
	if !slices.Equal(first, w.First) || !slices.Equal(list, w.List) {
		t.Fatalf("%s%v, %v, %d: %q %v, not %q %v", shown(r.l), r.p, r.stim, r.horizon, first, list, w.First, w.List)
	}
	return len(list)
}

// inFull goes through a netlist in parts by both ways, and tells how many changes and events there were.
func inFull(t *testing.T, d *dice, l api.Netlist, p api.Parts, stim []api.Change, horizon int) (int, int) {
	t.Helper()
	r := newRun(t, l, p, stim, horizon)
	r.inOrder(t, d)
	r.holds(t)
	s := newRun(t, l, p, stim, horizon)
	s.alone(t, d, r.told)
	order := func(a, b api.Event) int { return cmp.Or(cmp.Compare(a.From, b.From), cmp.Compare(a.Seq, b.Seq)) }
	slices.SortFunc(r.told, order)
	slices.SortFunc(s.told, order)
	if !slices.Equal(r.told, s.told) {
		t.Fatalf("%s%v, %v: %v, not %v", shown(l), p, stim, s.told, r.told)
	}
	return s.holds(t), len(s.told)
}

// each goes through all lists of so many numbers that are below an end.
func each(count, end int, do func(list []int)) {
	list := make([]int, count)
	for {
		do(list)
		at := 0
		for at < count && list[at] == end-1 {
			list[at] = 0
			at++
		}
		if at == count {
			return
		}
		list[at]++
	}
}

// choices is all nodes of one bit of a few kinds that may stand in a netlist of so many nodes.
func choices(count int) []api.Node {
	out := []api.Node{{Kind: api.NdConst, Wide: 1, Value: "1"}}
	for i := range count {
		out = append(out, node([]string{"not", "1", fmt.Sprint(i)}), node([]string{"delay@1", "1", fmt.Sprint(i)}), node([]string{"delay@2", "1", fmt.Sprint(i)}))
		for k := range count {
			out = append(out, node([]string{"flip", "1", fmt.Sprint(i), fmt.Sprint(k)}))
		}
	}
	return out
}

// Lp3: each netlist of an input and few other nodes, in all parts that may be.
func TestLp3AllSmall(t *testing.T) {
	d := dice(1)
	stim := changes("0 0 0, 1 0 1, 2 0 0, 4 0 1, 5 0 z")
	count, told, parting := 0, 0, 0
	for others := range 4 {
		of := choices(others + 1)
		if others == 3 {
			of = of[:8] // a constant, what the first two nodes go into
		}
		each(others, len(of), func(list []int) {
			l := netlist("in 1")
			for i, k := range list {
				l.Nodes = append(l.Nodes, of[k])
				l.Nets = append(l.Nets, i+1)
			}
			l.Ports = len(l.Nets)
			if hasLoop(l) {
				return
			}
			each(others+1, others+1, func(of []int) {
				p := withAhead(l, slices.Clone(of))
				if part.Check(l, p) != api.OK {
					return
				}
				c, n := inFull(t, &d, l, p, stim, 7)
				count, told, parting = count+c, told+n, parting+1
			})
		})
	}
	if count < 20000 || told < 5000 || parting < 2000 {
		t.Errorf("%d changes, %d events, %d partings", count, told, parting)
	}
}

func TestLp3MadeUp(t *testing.T) {
	d := dice(2)
	count, told, many := 0, 0, 0
	for i := range 900 {
		l := makeNetlist(&d, 1+d.roll(6), []int{3, 10, 25}[i%3])
		p := parted(t, l, 1+d.roll(6))
		c, n := inFull(t, &d, l, p, makeStimulus(&d, l, 10), 14)
		count, told = count+c, told+n
		if p.N > 2 {
			many++
		}
	}
	if count < 30000 || told < 3000 || many < 100 {
		t.Errorf("%d changes, %d events, %d of many parts", count, told, many)
	}
}

// A shorter horizon only leaves out what is behind it.
func TestLp3Horizons(t *testing.T) {
	d := dice(3)
	for range 60 {
		l := makeNetlist(&d, 1+d.roll(4), 8)
		p := parted(t, l, 1+d.roll(4))
		stim := makeStimulus(&d, l, 9)
		for horizon := range 12 {
			inFull(t, &d, l, p, stim, horizon)
		}
	}
}

func TestLp3Sources(t *testing.T) {
	d := dice(4)
	inv := "module inv #(parameter D = 1) (input a, output y); assign #D y = ~a; endmodule "
	for source, stim := range map[string]string{
		"module m(input c, input r, output reg [1:0] q, output [1:0] y); always @(posedge c) if (r) q <= 0; else q <= q + 1; assign #1 y = q; endmodule":     "0 0 0, 0 1 1, 1 0 1, 2 0 0, 2 1 0, 3 0 1, 4 0 0, 5 0 1, 6 0 0, 7 0 1, 8 0 0, 9 0 1",
		inv + "module m(input a, output y, output z); wire n; inv #(.D(2)) u (.a(a), .y(n)); inv #(.D(3)) v (.a(n), .y(y)); inv w (.a(y), .y(z)); endmodule": "1 0 0, 2 0 1, 4 0 z, 5 0 1",
		inv + "module m(input e, output y); wire n; inv #(.D(2)) u (.a(y), .y(n)); wire o; assign o = ~n & e; inv v (.a(o), .y(y)); endmodule":               "1 0 0, 6 0 1",
	} {
		l := lowered(t, source)
		for n := range 4 {
			if c, _ := inFull(t, &d, l, parted(t, l, n+1), changes(stim), 20); c < 8 {
				t.Errorf("%s: %d", source, c)
			}
		}
	}
}

// event is one that may come to a process, or that is spoilt a little.
func (d *dice) event(m *model) api.Event {
	e := api.Event{Time: m.done + 1 + d.roll(6), Node: d.roll(len(m.l.Nodes)), Seq: 1 + d.roll(9)}
	for range 20 {
		n := m.l.Nodes[e.Node]
		if n.Kind == api.NdDelay && m.p.Of[e.Node] == m.k && m.p.Of[n.Ins[0]] != m.k {
			break
		}
		e.Node = d.roll(len(m.l.Nodes))
	}
	n := m.l.Nodes[e.Node]
	e.Value = d.vector(n.Wide, "0", "1", "0", "1", "x", "z")
	if len(n.Ins) > 0 {
		e.From = m.p.Of[n.Ins[0]]
	}
	switch d.roll(40) {
	case 0:
		e.Time -= 1 + d.roll(4)
	case 1:
		e.From = d.roll(m.p.N+2) - 1
	case 2:
		e.Value += "1"
	case 3:
		e.Value = d.vector(n.Wide, "0", "2", "X")
	case 4:
		e.Anti = true
	case 5:
		e.Node = d.roll(len(m.l.Nodes)+2) - 1
	case 6:
		e.Time = []int{api.MaxTime, api.MaxTime + 1, most, least, -1, m.horizon, m.horizon + 1}[d.roll(7)]
	}
	return e
}

// Lp1, Lp2: whatever the calls on a process and its copies are, in whatever order.
func TestLp2MadeUp(t *testing.T) {
	d := dice(5)
	refused, taken, back, gone := map[api.Errno]int{}, 0, 0, 0
	for range 700 {
		l := makeNetlist(&d, 2+d.roll(4), 8)
		p := parted(t, l, 2+d.roll(4))
		k := d.roll(p.N)
		list := []pair{newPair(t, l, p, k, makeStimulus(&d, l, 12), 16)}
		for range 60 {
			b := list[d.roll(len(list))]
			switch d.roll(8) {
			case 0, 1, 2, 3:
				if e := b.take(t, d.event(b.m)); e != api.OK {
					refused[e]++
				} else {
					taken++
				}
			case 4:
				if b.cancel(t, d.roll(p.N+1), 1+d.roll(9)) {
					back++
				}
			case 5:
				if len(list) < 5 {
					list = append(list, b.copy())
				}
			default:
				if _, e := b.step(t); e == api.OK {
					gone++
				}
			}
			b.look(t)
		}
		for _, b := range list {
			b.look(t)
		}
	}
	if taken < 1000 || back < 100 || gone < 2000 || refused[api.ErrArg] < 300 || refused[api.ErrStage] < 20 || refused[api.ErrTime] < 10 {
		t.Error(taken, back, gone, refused)
	}
}
