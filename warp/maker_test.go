package warp_test

import (
	"silkworm/api"
	"silkworm/level"
	"strings"
)

// maker makes up netlists that may be, without loops, of nodes of all kinds: islands, between which there are delays alone.
type maker struct {
	*dice
	nodes  []api.Node
	island []int // of each node
	begin  int   // where the present one begins
}

func (m *maker) wide() int {
	return []int{1, 1, 1, 2, 3}[m.roll(5)]
}

func (m *maker) add(n api.Node) int {
	m.nodes = append(m.nodes, n)
	m.island = append(m.island, m.begin)
	return len(m.nodes) - 1
}

// any is a node of the present island, of the last ones more often.
func (m *maker) any() int {
	count := len(m.nodes) - m.begin
	return m.begin + max(m.roll(count), m.roll(count))
}

// of is one that is so wide.
func (m *maker) of(wide int) int {
	for range 12 {
		if n := m.any(); m.nodes[n].Wide == wide {
			return n
		}
	}
	return m.add(api.Node{Kind: api.NdWide, Wide: wide, Ins: []int{m.any()}})
}

func (m *maker) gate() {
	wide, in := m.wide(), m.any()
	n := api.Node{Kind: api.NdOp, Wide: wide}
	switch m.roll(12) {
	case 0:
		n = api.Node{Kind: api.NdConst, Wide: wide, Value: m.vector(wide, "0", "1", "0", "1", "x", "z")}
	case 1:
		n = api.Node{Kind: api.NdWide, Wide: wide, Ins: []int{in}}
	case 2:
		n.Op, n.Ins = []int{api.OpNot, api.OpNeg}[m.roll(2)], []int{m.of(wide)}
	case 3:
		n.Op, n.Wide, n.Ins = []int{api.OpLog, api.OpAllR, api.OpAnyR, api.OpXorR}[m.roll(4)], 1, []int{in}
	case 4, 5:
		n.Op, n.Ins = []int{api.OpAdd, api.OpSub, api.OpAnd, api.OpOr, api.OpXor}[m.roll(5)], []int{m.of(wide), m.of(wide)}
	case 6:
		n.Op, n.Ins = []int{api.OpShl, api.OpShr}[m.roll(2)], []int{m.of(wide), in}
	case 7:
		n.Op, n.Wide, n.Ins = api.OpLt+m.roll(6), 1, []int{m.of(wide), m.of(wide)}
	case 8:
		n.Op, n.Wide, n.Ins = []int{api.OpLand, api.OpLor, api.OpBit}[m.roll(3)], 1, []int{in, m.any()}
	case 9:
		n.Kind, n.Op = []int{api.NdChoose, api.NdOp}[m.roll(2)], api.OpCond
		if n.Kind == api.NdChoose {
			n.Op = 0
		}
		n.Ins = []int{in, m.of(wide), m.of(wide)}
	case 10:
		hi := m.roll(m.nodes[in].Wide)
		n.Op, n.Ins, n.Hi, n.Lo = api.OpPart, []int{in}, hi, m.roll(hi+1)
		n.Wide = n.Hi - n.Lo + 1
		if m.roll(2) == 0 {
			n = api.Node{Kind: api.NdOp, Op: api.OpCat, Wide: m.nodes[in].Wide + wide, Ins: []int{in, m.of(wide)}}
		}
	case 11:
		n = api.Node{Kind: api.NdSame, Wide: 1, Ins: []int{m.of(wide), m.of(wide)}}
	}
	m.add(n)
}

// makeNetlist is one with so many islands, each of up to so many nodes, numbered by chance. The first input of an island is a clock, by which and by whatever else flip-flops go.
func makeNetlist(d *dice, islands, most int) api.Netlist {
	m := &maker{dice: d}
	for range islands {
		m.begin = len(m.nodes)
		m.add([]api.Node{{Kind: api.NdIn, Wide: 1}, {Kind: api.NdDelay, Wide: 1, Ins: []int{m.begin}, Time: 1 + m.roll(4)}}[m.roll(2)])
		m.add([]api.Node{{Kind: api.NdIn, Wide: m.wide()}, {Kind: api.NdConst, Wide: 2, Value: "1z"}}[m.roll(2)])
		for range m.roll(most + 1) {
			m.more()
		}
	}
	m.feedBack()
	return m.netlist()
}

func (m *maker) more() {
	wide := m.wide()
	switch m.roll(7) {
	case 0, 1:
		clock := []int{m.begin, m.any(), m.of(1)}[m.roll(3)]
		m.add(api.Node{Kind: api.NdFlip, Wide: wide, Ins: []int{clock, m.of(wide)}})
	case 2, 3:
		m.add(api.Node{Kind: api.NdDelay, Wide: wide, Ins: []int{m.of(wide)}, Time: 1 + m.roll(4)})
	default:
		m.gate()
	}
}

// feedBack lets what comes later go into flip-flops, and what is of any island into delays.
func (m *maker) feedBack() {
	for i, n := range m.nodes {
		if n.Kind != api.NdFlip && n.Kind != api.NdDelay {
			continue
		}
		for range 6 {
			k := m.roll(len(m.nodes))
			if m.nodes[k].Wide == n.Wide && (n.Kind == api.NdDelay || m.island[k] == m.island[i]) {
				m.nodes[i].Ins[len(n.Ins)-1] = k
			}
		}
	}
}

func (m *maker) netlist() api.Netlist {
	number := m.order(len(m.nodes))
	l := api.Netlist{Nodes: make([]api.Node, len(m.nodes))}
	for i, n := range m.nodes {
		for k, in := range n.Ins {
			n.Ins[k] = number[in]
		}
		l.Nodes[number[i]] = n
		if n.Kind == api.NdIn || m.roll(2) == 0 {
			l.Nets = append(l.Nets, number[i])
		}
		if n.Kind != api.NdIn && m.roll(8) == 0 {
			l.Nets = append(l.Nets, number[i])
		}
	}
	nets := make([]int, len(l.Nets))
	for i, k := range m.order(len(nets)) {
		nets[k] = l.Nets[i]
	}
	l.Nets, l.Ports = nets, len(nets)
	return l
}

// order is the numbers below n in some order.
func (d *dice) order(n int) []int {
	out := make([]int, n)
	for i := range out {
		k := d.roll(i + 1)
		out[i] = out[k]
		out[k] = i
	}
	return out
}

// makeStimulus is changes of a netlist's inputs: those of one bit toggle, mostly.
func makeStimulus(d *dice, l api.Netlist, last int) []api.Change {
	var out []api.Change
	for time := range last {
		for i, n := range l.Nets {
			if l.Nodes[n].Kind != api.NdIn || d.roll(3) == 0 {
				continue
			}
			v := d.vector(l.Nodes[n].Wide, "0", "1", "0", "1", "0", "1", "x", "z")
			if l.Nodes[n].Wide == 1 && d.roll(4) > 0 {
				v = []string{"0", "1"}[time%2]
			}
			if d.roll(8) == 0 {
				v = strings.Repeat("z", l.Nodes[n].Wide)
			}
			out = append(out, api.Change{Time: time, Net: i, Value: v})
		}
	}
	return out
}

func hasLoop(l api.Netlist) bool {
	_, e := level.Run(l)
	return e == api.ErrLoop
}
