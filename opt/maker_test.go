package opt_test

import (
	"silkworm/api"
	"strings"
)

type dice uint32

func (d *dice) roll(n int) int {
	*d = *d*1664525 + 1013904223
	return int(*d>>8) % n
}

func (d *dice) one(list ...string) string {
	return list[d.roll(len(list))]
}

func (d *dice) vector(wide int, of ...string) string {
	v := ""
	for range wide {
		v += d.one(of...)
	}
	return v
}

// maker makes up netlists that may be: with nodes that are the same, that are just others, that hang on constants alone, and that nothing hangs on.
type maker struct {
	*dice
	nodes []api.Node
}

func (m *maker) wide() int {
	return []int{1, 1, 1, 2, 2, 3, 4}[m.roll(7)]
}

func (m *maker) add(n api.Node) int {
	m.nodes = append(m.nodes, n)
	return len(m.nodes) - 1
}

// any is a node that is there.
func (m *maker) any() int {
	return m.roll(len(m.nodes))
}

// of is one as wide as it is needed.
func (m *maker) of(wide int) int {
	var list []int
	for i, n := range m.nodes {
		if n.Wide == wide {
			list = append(list, i)
		}
	}
	if len(list) == 0 || m.roll(12) == 0 {
		return m.add(api.Node{Kind: api.NdWide, Wide: wide, Ins: []int{m.any()}})
	}
	return list[m.roll(len(list))]
}

// gate makes a gate up.
func (m *maker) gate() api.Node {
	wide := m.wide()
	n := api.Node{Kind: api.NdOp, Wide: wide}
	switch kind := m.roll(13); kind {
	case 0:
		return api.Node{Kind: api.NdConst, Wide: wide, Value: m.vector(wide, "0", "1", "0", "1", "x", "z")}
	case 1, 2:
		in := m.any()
		return api.Node{Kind: api.NdWide, Wide: []int{wide, m.nodes[in].Wide}[kind-1], Ins: []int{in}}
	case 3:
		n.Op, n.Ins = []int{api.OpNot, api.OpNeg}[m.roll(2)], []int{m.of(wide)}
	case 4:
		n.Op, n.Wide, n.Ins = []int{api.OpLog, api.OpAllR, api.OpAnyR, api.OpXorR}[m.roll(4)], 1, []int{m.any()}
	case 5:
		n.Op, n.Ins = []int{api.OpAdd, api.OpSub, api.OpAnd, api.OpOr, api.OpXor}[m.roll(5)], []int{m.of(wide), m.of(wide)}
	case 6:
		n.Op, n.Ins = []int{api.OpShl, api.OpShr}[m.roll(2)], []int{m.of(wide), m.any()}
	case 7:
		n.Op, n.Wide, n.Ins = api.OpLt+m.roll(6), 1, []int{m.of(wide), m.of(wide)}
	case 8:
		n.Op, n.Wide, n.Ins = []int{api.OpLand, api.OpLor, api.OpBit}[m.roll(3)], 1, []int{m.any(), m.any()}
	case 9:
		return m.choice(wide)
	case 10:
		in := m.any()
		hi := m.roll(m.nodes[in].Wide)
		lo := m.roll(hi + 1)
		return api.Node{Kind: api.NdOp, Op: api.OpPart, Wide: hi - lo + 1, Ins: []int{in}, Hi: hi, Lo: lo}
	case 11:
		n.Op, n.Wide = api.OpCat, 0
		for range 1 + m.roll(3) {
			in := m.any()
			n.Ins = append(n.Ins, in)
			n.Wide += m.nodes[in].Wide
		}
	case 12:
		return api.Node{Kind: api.NdSame, Wide: 1, Ins: []int{m.of(wide), m.of(wide)}}
	}
	return n
}

// choice is one whose parts are one node, or look like that, now and then.
func (m *maker) choice(wide int) api.Node {
	n := api.Node{Kind: api.NdChoose, Wide: wide}
	if m.roll(2) == 0 {
		n.Kind, n.Op = api.NdOp, api.OpCond
	}
	yes, no := m.of(wide), m.of(wide)
	switch m.roll(3) {
	case 0:
		no = yes
	case 1:
		no = m.add(api.Node{Kind: api.NdWide, Wide: wide, Ins: []int{yes}})
	}
	n.Ins = []int{m.any(), yes, no}
	return n
}

// again is a node that is the same as one that is there, or like it.
func (m *maker) again() api.Node {
	n := m.nodes[m.any()]
	if n.Kind == api.NdIn {
		return m.gate()
	}
	n.Ins = append([]int(nil), n.Ins...)
	for i, in := range n.Ins {
		for k, other := range m.nodes {
			if k != in && other.Kind == m.nodes[in].Kind && other.Op == m.nodes[in].Op && other.Wide == m.nodes[in].Wide && m.roll(2) == 0 {
				n.Ins[i] = k
			}
		}
	}
	return n
}

// makeNetlist is one with some nodes, numbered by chance. In a loose one some go in anywhere: there are loops, too.
func makeNetlist(d *dice, most int, loose bool) api.Netlist {
	m := &maker{dice: d}
	inputs := 1 + m.roll(3)
	for i := range inputs {
		m.add(api.Node{Kind: api.NdIn, Wide: []int{1, m.wide()}[min(i, 1)]})
	}
	for range 2 + m.roll(most) {
		switch m.roll(8) {
		case 0:
			wide := m.wide()
			m.add(api.Node{Kind: api.NdFlip, Wide: wide, Ins: []int{[]int{0, m.any()}[m.roll(2)], m.of(wide)}})
		case 1:
			wide := m.wide()
			m.add(api.Node{Kind: api.NdDelay, Wide: wide, Ins: []int{m.of(wide)}, Time: 1 + m.roll(3)})
		case 2, 3:
			m.add(m.again())
		default:
			m.add(m.gate())
		}
	}
	m.feedBack(loose)
	return m.netlist(inputs)
}

// feedBack lets what comes later go into flip-flops and delays, and, in a loose netlist, into gates.
func (m *maker) feedBack(loose bool) {
	for i, n := range m.nodes {
		last := len(n.Ins) - 1
		state := n.Kind == api.NdFlip || n.Kind == api.NdDelay
		if last < 0 || !state && !loose || m.roll(2) == 0 {
			continue
		}
		for k, other := range m.nodes {
			if other.Wide == m.nodes[n.Ins[last]].Wide && m.roll(4) == 0 {
				m.nodes[i].Ins[last] = k
			}
		}
	}
}

// netlist numbers the nodes by chance, and chooses ports among them.
func (m *maker) netlist(inputs int) api.Netlist {
	number := make([]int, len(m.nodes))
	for i := range number {
		k := m.roll(i + 1)
		number[i] = number[k]
		number[k] = i
	}
	l := api.Netlist{Nodes: make([]api.Node, len(m.nodes))}
	for i, n := range m.nodes {
		for k, in := range n.Ins {
			n.Ins[k] = number[in]
		}
		l.Nodes[number[i]] = n
		if i < inputs || m.roll(3) == 0 {
			l.Nets = append(l.Nets, number[i])
		}
		if i >= inputs && m.roll(12) == 0 {
			l.Nets = append(l.Nets, number[i])
		}
	}
	for i := range l.Nets {
		k := m.roll(i + 1)
		l.Nets[i], l.Nets[k] = l.Nets[k], l.Nets[i]
	}
	l.Ports = len(l.Nets)
	return l
}

// makeStimulus is changes of a netlist's inputs: those of one bit toggle, mostly.
func makeStimulus(d *dice, l api.Netlist) []api.Change {
	var out []api.Change
	for time := range 10 {
		for i, n := range l.Nets {
			if l.Nodes[n].Kind != api.NdIn || d.roll(3) == 0 {
				continue
			}
			v := d.vector(l.Nodes[n].Wide, "0", "1", "0", "1", "0", "1", "x", "z")
			if l.Nodes[n].Wide == 1 && d.roll(4) > 0 {
				v = []string{"0", "1"}[time%2]
			}
			if d.roll(6) == 0 {
				v = strings.Repeat("z", l.Nodes[n].Wide)
			}
			out = append(out, api.Change{Time: time, Net: i, Value: v})
		}
	}
	return out
}
