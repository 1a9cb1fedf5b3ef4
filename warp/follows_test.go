package warp_test

import (
	"silkworm/api"
	"silkworm/part"
	"silkworm/warp"
	"slices"
	"testing"
)

// Wa1, Wa3: each script of few picks, of two processes that reach each other.
func TestWa3AllShort(t *testing.T) {
	s := simOf("in 1; delay@1 1 0; in 1; delay@2 1 2; xor 1 3 0; delay@1 1 4", "0 1 1 0 0 1", toggles(5, 0, 2), 4)
	kinds := picks("1 0, 1 1, 2 0, 2 1, 3 0")
	begin := picks("1 0, 1 1")
	count, backs := map[int]int{}, 0
	for length := range 7 {
		each(length, len(kinds), func(list []int) {
			script := slices.Clone(begin)
			for _, k := range list {
				script = append(script, kinds[k])
			}
			m := s.again(t, script)
			count[m.gvt()]++
			backs += m.backs
		})
	}
	if count[0] > 0 || count[1] < 9000 || count[2] < 3000 || count[3] < 90 || backs < 3000 {
		t.Error(count, backs)
	}
}

// each goes through all lists of so many numbers that are below an end.
func each(count, end int, do func(list []int)) {
	list := make([]int, count)
	for {
		do(list)
		at := 0
		for at < count && list[at] == end-1 {
			list[at] = 0
			at++
		}
		if at == count {
			return
		}
		list[at]++
	}
}

// Wa1, Wa3: made-up scripts of made-up netlists: the GVT behind each pick, and the waveform ahead of it.
func TestWa3MadeUp(t *testing.T) {
	d := dice(1)
	whole, begun, nothing, many := 0, 0, 0, 0
	for i := range 1500 {
		s := d.sim(t, 6, []int{2, 6, 12}[i%3], 12)
		switch end := s.again(t, d.script(s, d.roll(60*s.p.N))).gvt(); {
		case end > s.horizon:
			whole++
		case end > 0:
			begun++
		default:
			nothing++
		}
		if s.p.N > 2 {
			many++
		}
	}
	if whole < 300 || begun < 300 || nothing < 80 || many < 500 {
		t.Error(whole, begun, nothing, many)
	}
}

// Of those that have much to tell each other most go back again and again.
func TestWa3Busy(t *testing.T) {
	d := dice(2)
	backs, early, under := 0, 0, 0
	for range 1200 {
		s := d.busy()
		m := s.again(t, d.script(s, 40*s.p.N))
		backs, early, under = backs+m.backs, early+m.early, under+len(m.under)
	}
	if backs < 6000 || early < 900 || under < 3000 {
		t.Error(backs, early, under)
	}
}

// Wa3, Wa4: each beginning of a script tells a beginning of what the script tells.
func TestWa3Beginnings(t *testing.T) {
	d := dice(3)
	for range 100 {
		s := d.busy()
		script := append(d.script(s, 10*s.p.N), s.enough(t)...)
		right := s.ahead(t, s.horizon+1)
		_, _, all, _ := s.run(script)
		told, done := 0, false
		for n := range len(script) {
			w, whole, times, e := s.run(script[:n])
			if e != api.OK || len(w.List) < told || done && !whole || !slices.Equal(w.First, right.First) || !slices.Equal(w.List, right.List[:len(w.List)]) || whole && !same(w, right) || !slices.Equal(times, all[:n]) || !slices.IsSorted(times) {
				t.Fatalf("%v, %v: %v, %v, %v, %d", s, script[:n], w, whole, times, e)
			}
			told, done = len(w.List), whole
		}
	}
}

// Wa4, P2: so many rounds make it whole, behind whatever script.
func TestWa4MadeUp(t *testing.T) {
	d := dice(4)
	count := 0
	for i := range 1200 {
		s := d.sim(t, 8, []int{2, 6, 12}[i%3], 14)
		if i%2 == 0 {
			s = d.busy()
		}
		script := append(d.script(s, d.roll(30*s.p.N)), s.enough(t)...)
		s.does(t, script, s.horizon+1)
		w, _, _, _ := s.run(script)
		count += len(w.List)
	}
	if count < 50000 {
		t.Error(count)
	}
}

// Wa4: each round raises the GVT, till it is the horizon and 1; behind a script, with messages under way, the first round need not.
func TestWa4EachRound(t *testing.T) {
	d := dice(5)
	still := 0
	for i := range 600 {
		s := d.busy()
		var script []api.Pick
		if i%2 == 1 {
			script = d.script(s, d.roll(20*s.p.N))
		}
		begin := len(script)
		_, _, times, e := s.run(append(script, s.enough(t)...))
		at := 0
		if begin > 0 {
			at = times[begin-1]
		}
		for n := begin + s.p.N; n < len(times); n += s.p.N + 1 {
			if times[n] <= at && at <= s.horizon {
				if begin == 0 || n > begin+s.p.N {
					t.Fatalf("%v: %v: %v", s, script, times)
				}
				still++
			}
			at = times[n]
		}
		if e != api.OK || at != s.horizon+1 {
			t.Fatalf("%v: %v: %v, %d", s, script, times, e)
		}
	}
	if still == 0 {
		t.Error("the last round is never needed")
	}
}

// Wa1, P6: with few states the script ends at the first that is too many, and all ahead of that is told.
func TestWa1SavedMadeUp(t *testing.T) {
	d := dice(6)
	count := map[api.Errno]int{}
	for range 1500 {
		s := d.busy().with(1 + d.roll(7))
		script := d.script(s, d.roll(30*s.p.N))
		s.again(t, script)
		_, _, times, e := s.run(script)
		count[e]++
		if e == api.ErrSaved {
			s.stops(t, script, len(times), slices.Max(append(times, 0)), e)
			more, _, list, _ := s.with(s.saved + 1).run(script)
			if w, _, _, _ := s.run(script); len(list) <= len(times) && len(more.List) < len(w.List) || !slices.Equal(list[:len(times)], times) {
				t.Fatalf("%v: %v: %v, %v", s, script, times, list)
			}
		}
	}
	if count[api.OK] < 200 || count[api.ErrSaved] < 400 || len(count) != 2 {
		t.Error(count)
	}
}

// choices is all nodes of one bit of a few kinds that may stand in a netlist of so many nodes.
func choices(count int) []api.Node {
	out := []api.Node{{Kind: api.NdConst, Wide: 1, Value: "1"}}
	for i := range count {
		out = append(out, api.Node{Kind: api.NdOp, Op: api.OpNot, Wide: 1, Ins: []int{i}})
		for time := 1; time <= 2; time++ {
			out = append(out, api.Node{Kind: api.NdDelay, Wide: 1, Ins: []int{i}, Time: time})
		}
	}
	return out
}

// Wa3, Wa4: each netlist of an input and few other nodes, in all parts that may be.
func TestWa4AllSmall(t *testing.T) {
	d := dice(7)
	stim := changes("0 0 0, 1 0 1, 2 0 0, 4 0 1, 5 0 z")
	partings, count := 0, 0
	for others := range 4 {
		of := choices(others + 1)
		each(others, len(of), func(list []int) {
			l := netlist("in 1")
			for i, k := range list {
				l.Nodes = append(l.Nodes, of[k])
				l.Nets = append(l.Nets, i+1)
			}
			l.Ports = len(l.Nets)
			if hasLoop(l) {
				return
			}
			each(others+1, others+1, func(of []int) {
				p := withAhead(l, slices.Clone(of))
				if part.Check(l, p) != api.OK {
					return
				}
				s := sim{l: l, p: p, stim: stim, horizon: d.roll(8), saved: api.MaxQueue}
				s.again(t, d.script(s, 12*p.N))
				s.does(t, s.enough(t), s.horizon+1)
				partings, count = partings+1, count+p.N
			})
		})
	}
	if partings < 4000 || count < 10000 {
		t.Error(partings, count)
	}
}

// Wa3: whoever is picked first; all that can go ahead first, then messages the last one first.
func TestWa3Orders(t *testing.T) {
	d := dice(8)
	for range 150 {
		s := d.busy()
		round := warp.Round(s.p)
		backward := slices.Clone(round)
		slices.Reverse(backward)
		for _, one := range [][]api.Pick{backward, slices.Concat(round, round[:s.p.N], round[:s.p.N]), slices.Concat(slices.Repeat(round[:s.p.N], 5), round[s.p.N:])} {
			s.again(t, slices.Repeat(one, 1+d.roll(6)))
			s.does(t, slices.Repeat(one, s.horizon+2), s.horizon+1)
		}
		// Messages one by one, the last one ahead of all others.
		m := newModel(t, s)
		m.all(slices.Repeat(round[:s.p.N], 6))
		for len(m.under) > 0 {
			m.pick(api.Pick{Kind: 2, N: len(m.under) - 1})
			m.pick(api.Pick{Kind: 1, N: d.roll(s.p.N)})
			if len(m.did) > 400 {
				m.pick(api.Pick{Kind: 3})
			}
		}
		s.again(t, m.did)
		s.does(t, append(m.did, s.enough(t)...), s.horizon+1)
	}
}

func TestWa4Sources(t *testing.T) {
	d := dice(9)
	inv := "module inv #(parameter D = 1) (input a, output y); assign #D y = ~a; endmodule "
	for source, stim := range map[string]string{
		"module m(input c, input r, output reg [1:0] q, output [1:0] y); always @(posedge c) if (r) q <= 0; else q <= q + 1; assign #1 y = q; endmodule":     "0 0 0, 0 1 1, 1 0 1, 2 0 0, 2 1 0, 3 0 1, 4 0 0, 5 0 1, 6 0 0, 7 0 1, 8 0 0, 9 0 1",
		inv + "module m(input a, output y, output z); wire n; inv #(.D(2)) u (.a(a), .y(n)); inv #(.D(3)) v (.a(n), .y(y)); inv w (.a(y), .y(z)); endmodule": "1 0 0, 2 0 1, 4 0 z, 5 0 1",
		inv + "module m(input e, output y); wire n; inv #(.D(2)) u (.a(y), .y(n)); wire o; assign o = ~n & e; inv v (.a(o), .y(y)); endmodule":               "1 0 0, 6 0 1",
	} {
		l := lowered(t, source)
		for n := range 4 {
			s := sim{l: l, p: parted(t, l, n+1), stim: changes(stim), horizon: 20, saved: api.MaxQueue}
			s.does(t, s.enough(t), 21)
			for range 20 {
				s.again(t, d.script(s, 40*s.p.N))
			}
			if w, _, _, _ := s.run(s.enough(t)); len(w.List) < 8 {
				t.Errorf("%s: %v", source, w)
			}
		}
	}
}
