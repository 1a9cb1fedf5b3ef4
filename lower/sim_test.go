package lower_test

import (
	"silkworm/api"
	"silkworm/logic"
	"slices"
	"strings"
)

// sim is the chapter's words on time, over signals: the nodes of a netlist, or the nets of a flat design.
type sim struct {
	values []string
	ports  []int
	wides  []int
	follow func(i int) int // lets what follows come to one more process, or node; how many signals changed
	steps  int
	rises  []rising
	delays []*delayed
}

// rising is what is done when a clock rises: the signals that get values.
type rising struct {
	clock int
	then  func() map[int]string
}

// delayed is a delay: what goes in, what it had sent last, and what is yet to come out.
type delayed struct {
	to, time int
	in       func() string
	sent     string
	coming   []api.Change
}

func (s *sim) settle() {
	for range s.steps + 2 {
		changed := 0
		for i := range s.steps {
			changed += s.follow(i)
		}
		if changed == 0 {
			return
		}
	}
	panic("it does not settle")
}

func (s *sim) put(signal int, v string) int {
	if len(v) != s.wides[signal] {
		panic("a value of another width")
	}
	if s.values[signal] == v {
		return 0
	}
	s.values[signal] = v
	return 1
}

// begin makes the values ahead of the time 0.
func (s *sim) begin() {
	s.values = make([]string, len(s.wides))
	for i, wide := range s.wides {
		s.values[i] = strings.Repeat("x", wide)
	}
	for _, d := range s.delays {
		d.sent, d.coming = strings.Repeat("x", s.wides[d.to]), nil
	}
	s.settle()
}

func (s *sim) portValues() []string {
	var out []string
	for _, p := range s.ports {
		out = append(out, s.values[p])
	}
	return out
}

func (s *sim) run(stim []api.Change, horizon int) api.Wave {
	s.begin()
	w := api.Wave{First: s.portValues()}
	for time := 0; time <= horizon; time++ {
		ahead := slices.Clone(s.values)
		if !s.arrive(stim, time) && time > 0 {
			continue
		}
		s.settle()
		s.rise(ahead)
		s.send(time)
		for i, p := range s.ports {
			if s.values[p] != ahead[p] {
				w.List = append(w.List, api.Change{Time: time, Net: i, Value: s.values[p]})
			}
		}
	}
	return w
}

// arrive lets inputs and delays get their values, if there are any.
func (s *sim) arrive(stim []api.Change, time int) bool {
	any := false
	for _, c := range stim {
		if c.Time == time {
			s.put(s.ports[c.Net], c.Value)
			any = true
		}
	}
	for _, d := range s.delays {
		if len(d.coming) > 0 && d.coming[0].Time == time {
			s.put(d.to, d.coming[0].Value)
			d.coming = d.coming[1:]
			any = true
		}
	}
	return any
}

func (s *sim) rise(ahead []string) {
	for {
		now := slices.Clone(s.values)
		next := map[int]string{}
		risen := false
		for _, r := range s.rises {
			if logic.Rise(ahead[r.clock], now[r.clock]) {
				risen = true
				for signal, v := range r.then() {
					next[signal] = v
				}
			}
		}
		if !risen {
			return
		}
		for signal, v := range next {
			s.put(signal, v)
		}
		s.settle()
		ahead = now
	}
}

func (s *sim) send(time int) {
	for _, d := range s.delays {
		if v := d.in(); v != d.sent {
			d.sent = v
			d.coming = append(d.coming, api.Change{Time: time + d.time, Value: v})
		}
	}
}

// ofNetlist is a netlist's signals: its nodes.
func ofNetlist(l api.Netlist) *sim {
	s := &sim{ports: l.Nets, steps: len(l.Nodes)}
	for i, n := range l.Nodes {
		s.wides = append(s.wides, n.Wide)
		switch n.Kind {
		case api.NdFlip:
			s.rises = append(s.rises, rising{clock: n.Ins[0], then: func() map[int]string { return map[int]string{i: s.values[n.Ins[1]]} }})
		case api.NdDelay:
			s.delays = append(s.delays, &delayed{to: i, time: n.Time, in: func() string { return s.values[n.Ins[0]] }})
		}
	}
	s.follow = func(i int) int {
		n := l.Nodes[i]
		if n.Kind == api.NdIn || n.Kind == api.NdFlip || n.Kind == api.NdDelay {
			return 0
		}
		var ins []string
		for _, in := range n.Ins {
			ins = append(ins, s.values[in])
		}
		return s.put(i, gate(n, ins))
	}
	return s
}

// gate is what a node makes of what goes in.
func gate(n api.Node, ins []string) string {
	v := ""
	switch n.Kind {
	case api.NdConst:
		v = n.Value
	case api.NdChoose:
		v = ins[2]
		if strings.Contains(ins[0], "1") {
			v = ins[1]
		}
	case api.NdSame:
		v = "0"
		if ins[0] == ins[1] {
			v = "1"
		}
	case api.NdWide:
		v, _ = logic.Fit(ins[0], n.Wide)
	case api.NdOp:
		v = operator(n.Op, ins, n.Hi, n.Lo)
	}
	return v
}

// operator is what layer 1 makes of vectors.
func operator(op int, ins []string, hi, lo int) string {
	v, e := "", api.OK
	switch {
	case op == api.OpCond:
		v, e = logic.Cond(ins[0], ins[1], ins[2])
	case op == api.OpBit:
		v, e = logic.Bit(ins[0], ins[1])
	case op == api.OpPart:
		v, e = logic.Part(ins[0], hi, lo)
	case op == api.OpCat:
		v = strings.Join(ins, "")
	case len(ins) == 1:
		v, e = logic.Unary(op, ins[0])
	default:
		v, e = logic.Binary(op, ins[0], ins[1])
	}
	if e != api.OK {
		panic("an operator that layer 1 refuses")
	}
	return v
}
