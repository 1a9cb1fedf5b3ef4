package engine_test

import (
	"silkworm/api"
	"silkworm/logic"
	"slices"
	"strings"
)

// told once more: each time up to the horizon is gone through, whether something changes or not. An input is what was put there last, a delay what went in so long ago, a gate what layer 1 makes of what goes in when it is asked.
type slow struct {
	nodes []api.Node
	stim  []api.Change
	nets  []int
	ends  [][]string // of each time, the values of all nodes at its end
	flips []string
	known []string // in this round; empty: not yet asked
}

// once is the first values and the changes of a waveform.
func once(l api.Netlist, stim []api.Change, horizon int) ([]string, []api.Change) {
	first, ends := allEnds(l, stim, horizon)
	var list []api.Change
	ahead := first
	for time, now := range ends {
		for net, n := range l.Nets {
			if now[n] != ahead[n] {
				list = append(list, api.Change{Time: time, Net: net, Value: now[n]})
			}
		}
		ahead = now
	}
	var values []string
	for _, n := range l.Nets {
		values = append(values, first[n])
	}
	return values, list
}

// allEnds is the values of all nodes ahead of the time 0, and at the end of each time.
func allEnds(l api.Netlist, stim []api.Change, horizon int) ([]string, [][]string) {
	s := &slow{nodes: l.Nodes, stim: stim, nets: l.Nets}
	for _, n := range l.Nodes {
		s.flips = append(s.flips, strings.Repeat("x", n.Wide))
	}
	first := s.all(-1)
	ahead := first
	for time := range horizon + 1 {
		now := s.all(time)
		for s.clock(ahead, now) {
			ahead, now = now, s.all(time)
		}
		s.ends = append(s.ends, now)
		ahead = now
	}
	return first, s.ends
}

// clock lets flip-flops whose clocks rise get their data, and tells whether there are any.
func (s *slow) clock(ahead, now []string) bool {
	any := false
	for i, n := range s.nodes {
		if n.Kind == api.NdFlip && logic.Rise(ahead[n.Ins[0]], now[n.Ins[0]]) {
			s.flips[i] = now[n.Ins[1]]
			any = true
		}
	}
	return any
}

func (s *slow) all(time int) []string {
	s.known = make([]string, len(s.nodes))
	for i := range s.nodes {
		s.ask(i, time)
	}
	return s.known
}

// ask is a node's value at a time, while the flip-flops are as they are.
func (s *slow) ask(i, time int) string {
	if s.known[i] == "" {
		s.known[i] = s.value(i, time)
	}
	return s.known[i]
}

func (s *slow) value(i, time int) string {
	n := s.nodes[i]
	switch n.Kind {
	case api.NdConst:
		return n.Value
	case api.NdFlip:
		return s.flips[i]
	case api.NdIn:
		v := strings.Repeat("x", n.Wide)
		for _, c := range s.stim {
			if c.Time <= time && s.nets[c.Net] == i {
				v = c.Value
			}
		}
		return v
	case api.NdDelay:
		if time < n.Time {
			return strings.Repeat("x", n.Wide)
		}
		return s.ends[time-n.Time][n.Ins[0]]
	}
	var ins []string
	for _, in := range n.Ins {
		ins = append(ins, s.ask(in, time))
	}
	return gate(n, ins)
}

func gate(n api.Node, ins []string) string {
	switch n.Kind {
	case api.NdChoose:
		if strings.Contains(ins[0], "1") {
			return ins[1]
		}
		return ins[2]
	case api.NdSame:
		if ins[0] == ins[1] {
			return "1"
		}
		return "0"
	case api.NdWide:
		v := strings.Repeat("0", n.Wide) + ins[0]
		return v[len(v)-n.Wide:]
	}
	v, e := "", api.OK
	switch {
	case n.Op == api.OpCond:
		v, e = logic.Cond(ins[0], ins[1], ins[2])
	case n.Op == api.OpBit:
		v, e = logic.Bit(ins[0], ins[1])
	case n.Op == api.OpPart:
		v, e = logic.Part(ins[0], n.Hi, n.Lo)
	case n.Op == api.OpCat:
		for _, in := range ins {
			v += in
		}
	case len(ins) == 1:
		v, e = logic.Unary(n.Op, ins[0])
	default:
		v, e = logic.Binary(n.Op, ins[0], ins[1])
	}
	if e != api.OK {
		panic("an operator that layer 1 refuses")
	}
	return v
}

// most is how many changes of delays, up to the horizon, are yet to come out behind a time, at the most.
func most(l api.Netlist, stim []api.Change, horizon int) int {
	_, ends := allEnds(l, stim, horizon)
	count := make([]int, horizon+1)
	for _, n := range l.Nodes {
		if n.Kind != api.NdDelay {
			continue
		}
		sent := strings.Repeat("x", n.Wide)
		for time, now := range ends {
			if out := time + n.Time; now[n.Ins[0]] != sent && out <= horizon {
				for k := time; k < out; k++ {
					count[k]++
				}
			}
			sent = now[n.Ins[0]]
		}
	}
	return slices.Max(count)
}
