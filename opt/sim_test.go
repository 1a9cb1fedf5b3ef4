package opt_test

import (
	"silkworm/api"
	"silkworm/logic"
	"slices"
	"strings"
)

// sim is layer 9's words on time, over the nodes of a netlist.
type sim struct {
	api.Netlist
	values []string
	sent   []string             // by delays, last
	coming map[int][]api.Change // what delays are yet to send, by times; Net is a node
}

// waveOf is the waveform of a netlist without a loop; of its nets all but names and widths.
func waveOf(l api.Netlist, stim []api.Change, horizon int) api.Wave {
	s := &sim{Netlist: l, coming: map[int][]api.Change{}}
	for _, n := range l.Nodes {
		s.values = append(s.values, strings.Repeat("x", n.Wide))
	}
	s.sent = slices.Clone(s.values)
	s.settle()
	w := api.Wave{First: s.ports()}
	for time := 0; time <= horizon; time++ {
		ahead, told := slices.Clone(s.values), s.ports()
		if !s.arrive(stim, time) && time > 0 {
			continue
		}
		s.settle()
		s.rise(ahead)
		s.send(time)
		for i, v := range s.ports() {
			if v != told[i] {
				w.List = append(w.List, api.Change{Time: time, Net: i, Value: v})
			}
		}
	}
	return w
}

func (s *sim) ports() []string {
	var out []string
	for _, n := range s.Nets {
		out = append(out, s.values[n])
	}
	return out
}

// settle lets all gates follow.
func (s *sim) settle() {
	for range len(s.Nodes) + 2 {
		changed := false
		for i, n := range s.Nodes {
			if v, is := s.gate(n); is && v != s.values[i] {
				s.values[i] = v
				changed = true
			}
		}
		if !changed {
			return
		}
	}
	panic("it does not settle")
}

func (s *sim) arrive(stim []api.Change, time int) bool {
	any := len(s.coming[time]) > 0
	for _, c := range s.coming[time] {
		s.values[c.Net] = c.Value
	}
	for _, c := range stim {
		if c.Time == time {
			s.values[s.Nets[c.Net]] = c.Value
			any = true
		}
	}
	return any
}

func (s *sim) rise(ahead []string) {
	for {
		now := slices.Clone(s.values)
		risen := false
		for i, n := range s.Nodes {
			if n.Kind == api.NdFlip && logic.Rise(ahead[n.Ins[0]], now[n.Ins[0]]) {
				s.values[i] = now[n.Ins[1]]
				risen = true
			}
		}
		if !risen {
			return
		}
		s.settle()
		ahead = now
	}
}

func (s *sim) send(time int) {
	for i, n := range s.Nodes {
		if n.Kind == api.NdDelay && s.values[n.Ins[0]] != s.sent[i] {
			s.sent[i] = s.values[n.Ins[0]]
			s.coming[time+n.Time] = append(s.coming[time+n.Time], api.Change{Net: i, Value: s.sent[i]})
		}
	}
}

// gate is what a node makes of what goes in, if it is a gate.
func (s *sim) gate(n api.Node) (string, bool) {
	var ins []string
	for _, in := range n.Ins {
		ins = append(ins, s.values[in])
	}
	v := ""
	switch n.Kind {
	case api.NdConst:
		v = n.Value
	case api.NdChoose:
		v = ins[2]
		if strings.Contains(ins[0], "1") {
			v = ins[1]
		}
	case api.NdSame:
		v = "0"
		if ins[0] == ins[1] {
			v = "1"
		}
	case api.NdWide:
		v, _ = logic.Fit(ins[0], n.Wide)
	case api.NdOp:
		v = operator(n, ins)
	default:
		return "", false
	}
	return v, true
}

// operator is what layer 1 makes of vectors.
func operator(n api.Node, ins []string) string {
	v, e := "", api.OK
	switch {
	case n.Op == api.OpCond:
		v, e = logic.Cond(ins[0], ins[1], ins[2])
	case n.Op == api.OpBit:
		v, e = logic.Bit(ins[0], ins[1])
	case n.Op == api.OpPart:
		v, e = logic.Part(ins[0], n.Hi, n.Lo)
	case n.Op == api.OpCat:
		v = strings.Join(ins, "")
	case len(ins) == 1:
		v, e = logic.Unary(n.Op, ins[0])
	default:
		v, e = logic.Binary(n.Op, ins[0], ins[1])
	}
	if e != api.OK {
		panic("an operator that layer 1 refuses")
	}
	return v
}

// loops tells whether a netlist has a loop without delay.
func loops(l api.Netlist) bool {
	done := make([]bool, len(l.Nodes))
	left := len(l.Nodes)
	for again := true; again; {
		again = false
		for i, n := range l.Nodes {
			on := n.Ins
			switch n.Kind {
			case api.NdFlip:
				on = n.Ins[:1]
			case api.NdDelay:
				on = nil
			}
			if !done[i] && !slices.ContainsFunc(on, func(in int) bool { return !done[in] }) {
				done[i], again = true, true
				left--
			}
		}
	}
	return left > 0
}
