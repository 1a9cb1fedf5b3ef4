package lower

import (
	"silkworm/api"
	"silkworm/logic"
	"strings"
)

// refused is what a builder throws when it gives up.
type refused api.Errno

// builder is a netlist while it is made. The node of a net has the net's number: it stands ahead of what drives it.
type builder struct {
	flat  api.Flat
	names map[string]int // nets by their names
	nodes []api.Node
	wides map[*api.Expr]int // own widths that are known
	twins map[gate]int      // while a value is made at many widths: what need not be made again
}

// gate is what tells one node from another.
type gate struct {
	kind, op, wide, hi, lo int
	value                  string
	ins                    [3]int
}

// build makes the netlist. Why there is none is thrown as a panic, from however deep within.
func (b *builder) build() (l api.Netlist, e api.Errno) {
	defer func() {
		if why, thrown := recover().(refused); thrown {
			l, e = api.Netlist{}, api.Errno(why)
		}
	}()
	b.nets()
	for i := range b.flat.Procs {
		b.process(&b.flat.Procs[i])
	}
	l = api.Netlist{Nodes: b.nodes, Nets: b.ports(), Ports: b.flat.Ports}
	if e = Check(l); e != api.OK {
		return api.Netlist{}, e
	}
	return l, api.OK
}

func giveUp(e api.Errno) {
	panic(refused(e))
}

// nets makes a node of each net; what goes in comes with the processes.
func (b *builder) nets() {
	for i, net := range b.flat.Nets {
		if net.Wide < 1 || net.Wide > api.MaxWide {
			giveUp(api.ErrArg)
		}
		if _, there := b.names[net.Name]; !there {
			b.names[net.Name] = i
		}
		b.add(nodeOf(net))
	}
}

// nodeOf is the node that a net is. A net that is driven without delay is what drives it, cut or widened.
func nodeOf(net api.Net) api.Node {
	n := api.Node{Wide: net.Wide}
	switch net.Kind {
	case api.NetOpen:
		n.Kind, n.Value = api.NdConst, strings.Repeat("z", net.Wide)
	case api.NetIn:
		n.Kind = api.NdIn
	case api.NetWire, api.NetComb:
		n.Kind = api.NdWide
	case api.NetReg:
		n.Kind = api.NdFlip
	case api.NetDelay:
		n.Kind = api.NdDelay
	}
	return n
}

func (b *builder) ports() []int {
	if b.flat.Ports < 0 || b.flat.Ports > len(b.flat.Nets) {
		giveUp(api.ErrArg)
	}
	list := make([]int, b.flat.Ports)
	for i := range list {
		list[i] = i
	}
	return list
}

// named is the number of a net.
func (b *builder) named(name string) int {
	net, there := b.names[name]
	if !there {
		giveUp(api.ErrArg)
	}
	return net
}

func (b *builder) add(n api.Node) int {
	twin := gate{kind: n.Kind, op: n.Op, wide: n.Wide, hi: n.Hi, lo: n.Lo, value: n.Value}
	copy(twin.ins[:], n.Ins)
	few := len(n.Ins) <= len(twin.ins)
	if node, there := b.twins[twin]; there && few {
		return node
	}
	if len(b.nodes) == api.MaxNodes {
		giveUp(api.ErrSize)
	}
	b.nodes = append(b.nodes, n)
	if b.twins != nil && few {
		b.twins[twin] = len(b.nodes) - 1
	}
	return len(b.nodes) - 1
}

func (b *builder) constant(v string) int {
	return b.add(api.Node{Kind: api.NdConst, Wide: len(v), Value: v})
}

// number is a constant as wide as it is needed.
func (b *builder) number(v string, wide int) int {
	fitted, _ := logic.Fit(v, wide)
	return b.constant(fitted)
}

func (b *builder) operator(op, wide int, ins ...int) int {
	return b.add(api.Node{Kind: api.NdOp, Op: op, Wide: wide, Ins: ins})
}

func (b *builder) part(of, hi, lo int) int {
	return b.add(api.Node{Kind: api.NdOp, Op: api.OpPart, Wide: hi - lo + 1, Ins: []int{of}, Hi: hi, Lo: lo})
}

// choose is the node yes where the truth of when is 1, else the node no.
func (b *builder) choose(when, yes, no int) int {
	return b.add(api.Node{Kind: api.NdChoose, Wide: b.nodes[yes].Wide, Ins: []int{when, yes, no}})
}

func (b *builder) same(one, other int) int {
	return b.add(api.Node{Kind: api.NdSame, Wide: 1, Ins: []int{one, other}})
}

// fit is a node as wide as it is needed: itself, if it is so.
func (b *builder) fit(node, wide int) int {
	if b.nodes[node].Wide == wide {
		return node
	}
	return b.add(api.Node{Kind: api.NdWide, Wide: wide, Ins: []int{node}})
}
