package conserv_test

import (
	"silkworm/api"
	"silkworm/conserv"
	"silkworm/part"
	"slices"
	"testing"
)

// Co1: each script of few picks, of two processes that wait for each other.
func TestCo1AllShort(t *testing.T) {
	s := simOf("in 1; delay@1 1 0; in 1; delay@2 1 2; xor 1 3 0; delay@1 1 4", "0 1 1 0 0 1", toggles(5, 0, 2), 4)
	kinds := picks("1 0, 1 1, 2 0, 2 1, 3 0, 3 1")
	begin := picks("1 0, 1 1")
	count := map[int]int{}
	for length := range 7 {
		each(length, len(kinds), func(list []int) {
			script := slices.Clone(begin)
			for _, k := range list {
				script = append(script, kinds[k])
			}
			end, _ := s.again(t, script)
			count[end]++
		})
	}
	if count[0] == 0 || count[1] == 0 || count[2] == 0 || count[3] != 0 {
		t.Error(count)
	}
}

// each goes through all lists of so many numbers that are below an end.
func each(count, end int, do func(list []int)) {
	list := make([]int, count)
	for {
		do(list)
		at := 0
		for at < count && list[at] == end-1 {
			list[at] = 0
			at++
		}
		if at == count {
			return
		}
		list[at]++
	}
}

// Co1, Co3: made-up scripts of made-up netlists, and ahead of which time they tell the waveform.
func TestCo1MadeUp(t *testing.T) {
	d := dice(1)
	whole, begun, nothing, many := 0, 0, 0, 0
	for i := range 2500 {
		s := d.sim(t, 6, []int{2, 6, 12}[i%3], 12)
		end, _ := s.again(t, d.script(s, d.roll(60*s.p.N)))
		switch {
		case end > s.horizon:
			whole++
		case end > 0:
			begun++
		default:
			nothing++
		}
		if s.p.N > 2 {
			many++
		}
	}
	if whole < 300 || begun < 400 || nothing < 200 || many < 500 {
		t.Error(whole, begun, nothing, many)
	}
}

// Co3: each beginning of a script tells a beginning of what the script tells.
func TestCo3Beginnings(t *testing.T) {
	d := dice(2)
	for range 150 {
		s := d.sim(t, 4, 6, 8)
		script := append(d.script(s, 20*s.p.N), s.enough(t)...)
		right := s.ahead(t, s.horizon+1)
		told, done := 0, false
		for n := range len(script) {
			if n > 60*s.p.N && d.roll(5) > 0 {
				continue
			}
			w, whole, e := s.run(script[:n])
			if e != api.OK || len(w.List) < told || done && !whole || !slices.Equal(w.First, right.First) || !slices.Equal(w.List, right.List[:len(w.List)]) || whole && !same(w, right) {
				t.Fatalf("%v, %v: %v, %v, %d", s, script[:n], w, whole, e)
			}
			told, done = len(w.List), whole
		}
	}
}

// Co4, P2: so many rounds make it whole, behind whatever script.
func TestCo4MadeUp(t *testing.T) {
	d := dice(3)
	count := 0
	for i := range 1200 {
		s := d.sim(t, 8, []int{2, 6, 12}[i%3], 14)
		script := append(d.script(s, d.roll(30*s.p.N)), s.enough(t)...)
		s.answers(t, script, s.horizon+1, true, api.OK)
		w, _, _ := s.run(script)
		count += len(w.List)
	}
	if count < 30000 {
		t.Error(count)
	}
}

// choices is all nodes of one bit of a few kinds that may stand in a netlist of so many nodes.
func choices(count int) []api.Node {
	out := []api.Node{{Kind: api.NdConst, Wide: 1, Value: "1"}}
	for i := range count {
		out = append(out, api.Node{Kind: api.NdOp, Op: api.OpNot, Wide: 1, Ins: []int{i}})
		for time := 1; time <= 2; time++ {
			out = append(out, api.Node{Kind: api.NdDelay, Wide: 1, Ins: []int{i}, Time: time})
		}
	}
	return out
}

// Co3, Co4: each netlist of an input and few other nodes, in all parts that may be.
func TestCo4AllSmall(t *testing.T) {
	d := dice(4)
	stim := changes("0 0 0, 1 0 1, 2 0 0, 4 0 1, 5 0 z")
	partings, count := 0, 0
	for others := range 4 {
		of := choices(others + 1)
		each(others, len(of), func(list []int) {
			l := netlist("in 1")
			for i, k := range list {
				l.Nodes = append(l.Nodes, of[k])
				l.Nets = append(l.Nets, i+1)
			}
			l.Ports = len(l.Nets)
			if hasLoop(l) {
				return
			}
			each(others+1, others+1, func(of []int) {
				p := withAhead(l, slices.Clone(of))
				if part.Check(l, p) != api.OK {
					return
				}
				s := sim{l: l, p: p, stim: stim, horizon: d.roll(8)}
				s.again(t, d.script(s, 12*p.N))
				s.answers(t, s.enough(t), s.horizon+1, true, api.OK)
				partings, count = partings+1, count+p.N
			})
		})
	}
	if partings < 4000 || count < 10000 {
		t.Error(partings, count)
	}
}

// It never comes to a stand: each two rounds behind one another bring the least time on, till all is through.
func TestCo4EachRound(t *testing.T) {
	d := dice(5)
	for range 300 {
		s := d.sim(t, 6, 6, 10)
		m := newModel(t, s)
		at, _ := m.end(nil)
		for range s.horizon + 1 {
			now, e := m.end(s.rounds(2))
			if e != api.OK || now <= at && now <= s.horizon {
				t.Fatalf("%v: %d, then %d, %d", s, at, now, e)
			}
			at = now
		}
		s.answers(t, s.rounds(2*s.horizon+2), s.horizon+1, true, api.OK)
	}
}

// Co3: whoever is picked first, the others waiting; backwards, and again and again.
func TestCo3Orders(t *testing.T) {
	d := dice(6)
	for range 200 {
		s := d.sim(t, 5, 6, 9)
		round := conserv.Round(s.p)
		backward := slices.Clone(round)
		slices.Reverse(backward)
		for _, one := range [][]api.Pick{backward, slices.Concat(round, round[:s.p.N], round[:s.p.N]), slices.Concat(round[s.p.N:], round[s.p.N:], round)} {
			s.again(t, slices.Repeat(one, 1+d.roll(6)))
			s.answers(t, slices.Repeat(one, 2*s.horizon+6), s.horizon+1, true, api.OK)
		}
		// Messages one by one: each is told at last.
		var single []api.Pick
		for range 12 {
			single = append(single, round[:s.p.N]...)
			for k := range len(round) - s.p.N {
				single = append(single, api.Pick{Kind: 2, N: k})
			}
		}
		s.again(t, single)
	}
}

func TestCo4Sources(t *testing.T) {
	d := dice(7)
	inv := "module inv #(parameter D = 1) (input a, output y); assign #D y = ~a; endmodule "
	for source, stim := range map[string]string{
		"module m(input c, input r, output reg [1:0] q, output [1:0] y); always @(posedge c) if (r) q <= 0; else q <= q + 1; assign #1 y = q; endmodule":     "0 0 0, 0 1 1, 1 0 1, 2 0 0, 2 1 0, 3 0 1, 4 0 0, 5 0 1, 6 0 0, 7 0 1, 8 0 0, 9 0 1",
		inv + "module m(input a, output y, output z); wire n; inv #(.D(2)) u (.a(a), .y(n)); inv #(.D(3)) v (.a(n), .y(y)); inv w (.a(y), .y(z)); endmodule": "1 0 0, 2 0 1, 4 0 z, 5 0 1",
		inv + "module m(input e, output y); wire n; inv #(.D(2)) u (.a(y), .y(n)); wire o; assign o = ~n & e; inv v (.a(o), .y(y)); endmodule":               "1 0 0, 6 0 1",
	} {
		l := lowered(t, source)
		for n := range 4 {
			s := sim{l: l, p: parted(t, l, n+1), stim: changes(stim), horizon: 20}
			s.answers(t, s.enough(t), 21, true, api.OK)
			for range 20 {
				s.again(t, d.script(s, 40*s.p.N))
			}
			if w, _, _ := s.run(s.enough(t)); len(w.List) < 8 {
				t.Errorf("%s: %v", source, w)
			}
		}
	}
}
