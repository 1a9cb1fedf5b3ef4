package lower_test

import (
	"maps"
	"silkworm/api"
	"silkworm/elab"
	"silkworm/logic"
	"slices"
	"strings"
)

// design is a flat design that is run by its processes, statement by statement, on values.
type design struct {
	api.Flat
	*sim
	names map[string]int
}

// ofFlat is a flat design's signals: its nets.
func ofFlat(f api.Flat) *sim {
	d := &design{Flat: f, sim: &sim{steps: len(f.Procs) + 1}, names: map[string]int{}}
	for i, n := range f.Nets {
		d.wides = append(d.wides, n.Wide)
		d.names[n.Name] = i
		if i < f.Ports {
			d.ports = append(d.ports, i)
		}
	}
	for _, p := range f.Procs {
		switch {
		case p.Kind == api.ItClock:
			d.rises = append(d.rises, rising{clock: p.Clock, then: func() map[int]string { return d.do(p.Body, nil, false) }})
		case p.Delay > 0:
			d.delays = append(d.delays, &delayed{to: p.Target, time: p.Delay, in: func() string { return d.assigned(p.Value, p.Target, nil) }})
		}
	}
	d.follow = d.process
	return d.sim
}

// process lets what follows come to one process more, the last being that of open nets.
func (d *design) process(i int) int {
	changed := 0
	if i == len(d.Procs) {
		for n, net := range d.Nets {
			if net.Kind == api.NetOpen {
				changed += d.put(n, strings.Repeat("z", net.Wide))
			}
		}
		return changed
	}
	switch p := d.Procs[i]; {
	case p.Kind == api.ItComb:
		for net, v := range d.do(p.Body, nil, true) {
			changed += d.put(net, v)
		}
	case p.Kind == api.ItAssign && p.Delay == 0:
		changed = d.put(p.Target, d.assigned(p.Value, p.Target, nil))
	}
	return changed
}

// do is what statements set, behind what was set ahead, which they see or not.
func (d *design) do(l []api.Stmt, ahead map[int]string, seen bool) map[int]string {
	set := maps.Clone(ahead)
	if set == nil {
		set = map[int]string{}
	}
	for _, x := range l {
		var see map[int]string
		if seen {
			see = set
		}
		switch x.Kind {
		case api.StSet, api.StDefer:
			net := d.names[x.Target]
			set[net] = d.assigned(x.Value, net, see)
		case api.StIf:
			body := x.Else
			if truth, _ := logic.Truth(d.eval(x.Value, d.own(x.Value), see)); truth == '1' {
				body = x.Body
			}
			set = d.do(body, set, seen)
		case api.StCase:
			set = d.do(d.arm(x, see), set, seen)
		}
	}
	return set
}

// arm is the body of a case that is done.
func (d *design) arm(x api.Stmt, see map[int]string) []api.Stmt {
	var other []api.Stmt
	for _, a := range x.Arms {
		if a.Default {
			other = a.Body
			continue
		}
		wide := max(d.own(x.Value), d.own(a.Label))
		if d.eval(x.Value, wide, see) == d.eval(a.Label, wide, see) {
			return a.Body
		}
	}
	return other
}

func (d *design) own(x api.Expr) int {
	wide, why := elab.Wide(x, d.Nets)
	if why.Code != api.OK {
		panic("an expression without a width")
	}
	return wide
}

func (d *design) assigned(x api.Expr, net int, see map[int]string) string {
	v := d.eval(x, max(d.own(x), d.wides[net]), see)
	return v[len(v)-d.wides[net]:]
}

// eval is an expression's value, as wide as it is needed: its parts are as wide as the table of what they are says.
func (d *design) eval(x api.Expr, wide int, see map[int]string) string {
	v := ""
	switch x.Op {
	case api.OpNum:
		v = x.Value
	case api.OpName:
		v = d.net(x.Name, see)
	case api.OpBit:
		v = operator(x.Op, []string{d.net(x.Name, see), d.eval(x.Kids[0], d.own(x.Kids[0]), see)}, 0, 0)
	case api.OpPart:
		hi, _ := logic.Number(x.Kids[0].Value)
		lo, _ := logic.Number(x.Kids[1].Value)
		v = operator(x.Op, []string{d.net(x.Name, see)}, hi, lo)
	default:
		var ins []string
		for i, k := range x.Kids {
			ins = append(ins, d.eval(k, d.needed(x, i, wide), see))
		}
		v = operator(x.Op, ins, 0, 0)
	}
	return strings.Repeat("0", wide-len(v)) + v
}

func (d *design) net(name string, see map[int]string) string {
	if v, there := see[d.names[name]]; there {
		return v
	}
	return d.values[d.names[name]]
}

// needed is how wide a part comes.
func (d *design) needed(x api.Expr, part, wide int) int {
	switch {
	case slices.Contains([]int{api.OpNot, api.OpNeg, api.OpAdd, api.OpSub, api.OpAnd, api.OpOr, api.OpXor}, x.Op),
		(x.Op == api.OpShl || x.Op == api.OpShr) && part == 0, x.Op == api.OpCond && part > 0:
		return wide
	case api.OpLt <= x.Op && x.Op <= api.OpNe:
		return max(d.own(x.Kids[0]), d.own(x.Kids[1]))
	}
	return d.own(x.Kids[part])
}

// hangsOnItself tells whether a net does, by the chapter's words.
func hangsOnItself(f api.Flat) bool {
	d := design{Flat: f, names: map[string]int{}}
	for i, n := range f.Nets {
		d.names[n.Name] = i
	}
	on := make([][]int, len(f.Nets))
	for _, p := range f.Procs {
		reads, drives := map[int]bool{}, map[int]bool{}
		d.readsOf(p.Value, reads)
		d.stmtsOf(p.Body, reads, drives)
		switch {
		case p.Kind == api.ItAssign && p.Delay > 0:
			continue
		case p.Kind == api.ItAssign:
			drives[p.Target] = true
			if reads[p.Target] {
				return true
			}
		case p.Kind == api.ItClock:
			reads = map[int]bool{p.Clock: true}
		}
		for net := range drives {
			for other := range reads {
				if p.Kind == api.ItClock || !drives[other] {
					on[net] = append(on[net], other)
				}
			}
		}
	}
	return circular(on)
}

func (d *design) readsOf(x api.Expr, reads map[int]bool) {
	if x.Name != "" {
		reads[d.names[x.Name]] = true
	}
	for _, k := range x.Kids {
		d.readsOf(k, reads)
	}
}

func (d *design) stmtsOf(l []api.Stmt, reads, drives map[int]bool) {
	for _, x := range l {
		d.readsOf(x.Value, reads)
		if x.Target != "" {
			drives[d.names[x.Target]] = true
		}
		d.stmtsOf(x.Body, reads, drives)
		d.stmtsOf(x.Else, reads, drives)
		for _, a := range x.Arms {
			d.readsOf(a.Label, reads)
			d.stmtsOf(a.Body, reads, drives)
		}
	}
}
