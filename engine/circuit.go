package engine

import (
	"silkworm/api"
	"silkworm/gates"
	"silkworm/logic"
	"strings"
)

// circuit is the nodes of a netlist without a loop, and their values. Only what hangs on a change is looked at again: a node's value is put at most once, while nodes follow.
type circuit struct {
	nodes  []api.Node
	levels []int
	values []string
	was    []string // of each node, ahead of its last change
	users  []users

	open    [][]int // by levels, the gates that are to follow
	isOpen  []bool
	lowest  int // level that has one of them
	left    int // how many they are
	ins     []string
	clocked []int // flip-flops whose clocks have changed since the last round
	changed []int // all that have changed in this time, some of them more than once
	fed     []int // delays into which something else has gone in this time
}

// users is the nodes that hang on a node: gates, flip-flops that it is the clock of, delays.
type users struct {
	gates, flips, delays []int
}

// newCircuit is a circuit with the values ahead of the time 0.
func newCircuit(nodes []api.Node, levels []int) *circuit {
	n := len(nodes)
	c := &circuit{nodes: nodes, levels: levels, values: make([]string, n), was: make([]string, n), users: make([]users, n)}
	c.open, c.isOpen, c.lowest = make([][]int, n), make([]bool, n), n
	for i := range n {
		c.join(i)
	}
	c.follow()
	// From nothing to its first value no clock rises.
	c.clocked = nil
	return c
}

// join makes a node known to those that it hangs on, and gives it a first value, if it is none that follows.
func (c *circuit) join(i int) {
	n := c.nodes[i]
	switch n.Kind {
	case api.NdIn:
	case api.NdFlip:
		u := &c.users[n.Ins[0]]
		u.flips = append(u.flips, i)
	case api.NdDelay:
		u := &c.users[n.Ins[0]]
		u.delays = append(u.delays, i)
	default:
		for _, in := range n.Ins {
			c.users[in].gates = append(c.users[in].gates, i)
		}
		c.toFollow(i)
		return
	}
	c.values[i] = unknown(n)
}

// unknown is x in all bits of a node.
func unknown(n api.Node) string {
	return strings.Repeat("x", n.Wide)
}

// put gives a node a value. If that is another one, those that hang on it are to be looked at.
func (c *circuit) put(n int, v string) {
	if v == c.values[n] {
		return
	}
	c.was[n], c.values[n] = c.values[n], v
	for _, g := range c.users[n].gates {
		c.toFollow(g)
	}
	c.changed = append(c.changed, n)
	c.clocked = append(c.clocked, c.users[n].flips...)
	c.fed = append(c.fed, c.users[n].delays...)
}

func (c *circuit) toFollow(gate int) {
	if c.isOpen[gate] {
		return
	}
	level := c.levels[gate]
	c.isOpen[gate] = true
	c.open[level] = append(c.open[level], gate)
	c.lowest = min(c.lowest, level)
	c.left++
}

// follow lets the gates follow, level by level: those that hang on a gate stand above it.
func (c *circuit) follow() {
	from := c.lowest
	for k := range len(c.open) - from {
		if c.left == 0 {
			break
		}
		c.followAt(from + k)
	}
	c.lowest = len(c.open)
}

func (c *circuit) followAt(level int) {
	for _, g := range c.open[level] {
		c.isOpen[g] = false
		c.put(g, c.gate(g))
	}
	c.left -= len(c.open[level])
	c.open[level] = c.open[level][:0]
}

func (c *circuit) gate(g int) string {
	c.ins = c.ins[:0]
	for _, in := range c.nodes[g].Ins {
		c.ins = append(c.ins, c.values[in])
	}
	return gates.Value(c.nodes[g], c.ins)
}

// settle lets all others follow what inputs and delays got, round by round, till no clock rises. It ends: a clock rises by flip-flops of lower levels alone.
func (c *circuit) settle() {
	c.follow()
	for len(c.clocked) > 0 {
		c.rise()
		c.follow()
	}
}

// rise gives the flip-flops whose clocks have risen their data: all at once, so none is changed ahead of the last one's being read.
func (c *circuit) rise() {
	var risen []int
	var data []string
	for _, f := range c.clocked {
		clock, in := c.nodes[f].Ins[0], c.nodes[f].Ins[1]
		if logic.Rise(c.was[clock], c.values[clock]) {
			risen = append(risen, f)
			data = append(data, c.values[in])
		}
	}
	c.clocked = c.clocked[:0]
	for i, f := range risen {
		c.put(f, data[i])
	}
}
