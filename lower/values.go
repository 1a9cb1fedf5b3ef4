package lower

import (
	"silkworm/api"
	"strings"
)

// How a part of a case's value hangs on the width that it is needed at. Each of them is what those ahead are, and more.
const (
	free  = iota // in whatever way
	cut          // it is the widest one, cut
	alike        // it is known at one width just if it is at each: a sum is x in all bits by any bit that is not known, also by one that a cut takes away
	small        // above the value's own width it is noughts
)

// leaf is the operator of a shape that is a node.
const leaf = api.OpName

// shape is a part of a case's value.
type shape struct {
	op    int
	parts [2]int // shapes, by their numbers
	node  int    // what stands by itself: a leaf, how far is shifted, what a choice hangs on
}

// fact is what is known of a shape.
type fact struct {
	class      int
	downs, ups int // shifts one behind the other, at its end, that can't be cut
}

// value is a case's, which labels of several widths ask for. Made once for each of them it could be far too many nodes: so what can be cut is made once, as wide as any of them needs it, and put together ahead of what can't.
type value struct {
	*builder
	see    known
	most   int // the greatest width
	many   int // how many widths there are
	shapes []shape
	facts  []fact
	ids    map[shape]int
	ready  map[[2]int]int // nodes of shapes at widths
	slides map[int]slide
}

// atEach is the nodes of an expression by some widths, the greatest of which comes last.
func (b *builder) atEach(x *api.Expr, wides []int, see known) map[int]int {
	nodes := map[int]int{}
	if len(wides) == 0 {
		return nodes
	}
	b.twins = map[gate]int{}
	v := value{builder: b, see: see, most: wides[len(wides)-1], many: len(wides), ids: map[shape]int{}, ready: map[[2]int]int{}, slides: map[int]slide{}}
	root := v.read(x)
	for _, wide := range wides {
		nodes[wide] = v.at(root, wide)
	}
	b.twins = nil
	return nodes
}

// at is the node of a shape, as wide as it is needed.
func (v *value) at(id, wide int) int {
	key := [2]int{id, wide}
	node, there := v.ready[key]
	if !there {
		node = v.node(id, wide)
		v.ready[key] = node
	}
	return node
}

func (v *value) node(id, wide int) int {
	s := v.shapes[id]
	switch {
	case s.op == leaf:
		return v.fit(s.node, wide)
	case v.facts[id].class == free && (s.op == api.OpShl || s.op == api.OpShr):
		return v.moved(id, wide)
	case v.facts[id].class != free && wide < v.most:
		return v.fit(v.at(id, v.most), wide)
	}
	switch s.op {
	case api.OpNot, api.OpNeg:
		return v.operator(s.op, wide, v.at(s.parts[0], wide))
	case api.OpShl, api.OpShr:
		return v.operator(s.op, wide, v.at(s.parts[0], wide), s.node)
	case api.OpCond:
		return v.operator(s.op, wide, s.node, v.at(s.parts[0], wide), v.at(s.parts[1], wide))
	}
	return v.operator(s.op, wide, v.at(s.parts[0], wide), v.at(s.parts[1], wide))
}

// read is the shape of an expression.
func (v *value) read(x *api.Expr) int {
	switch x.Op {
	case api.OpNum:
		return v.leaf(v.constant(x.Value))
	case api.OpNot:
		return v.shape(x.Op, v.read(&x.Kids[0]), 0, 0)
	case api.OpNeg, api.OpAdd, api.OpSub:
		return v.sum(x)
	case api.OpAnd, api.OpOr, api.OpXor:
		return v.join(x.Op, v.joined(x.Op, x, nil))
	case api.OpShl, api.OpShr:
		return v.shape(x.Op, v.read(&x.Kids[0]), 0, v.alone(&x.Kids[1], v.see))
	case api.OpCond:
		return v.shape(x.Op, v.read(&x.Kids[1]), v.read(&x.Kids[2]), v.alone(&x.Kids[0], v.see))
	}
	return v.leaf(v.narrow(x, v.see))
}

func (v *value) leaf(node int) int {
	return v.shape(leaf, 0, 0, node)
}

// shape is the number of a shape: the same one, if it is there.
func (v *value) shape(op, one, other, node int) int {
	s := shape{op: op, parts: [2]int{one, other}, node: node}
	id, there := v.ids[s]
	if !there {
		id = len(v.shapes)
		v.ids[s] = id
		v.shapes = append(v.shapes, s)
		v.facts = append(v.facts, fact{class: v.classOf(s)})
		v.countShifts(id)
	}
	return id
}

func (v *value) classOf(s shape) int {
	one, other := v.class(s.parts[0]), v.class(s.parts[1])
	both := min(one, other)
	switch s.op {
	case api.OpNot:
		return min(one, alike)
	case api.OpNeg:
		return ifAlike(one)
	case api.OpAdd, api.OpSub:
		return ifAlike(both)
	case api.OpXor:
		return both
	case api.OpAnd:
		return ifSmall(both, max(one, other))
	case api.OpOr, api.OpCond:
		return ifSmall(both, both)
	case api.OpShl:
		return min(one, cut)
	case api.OpShr:
		return v.shiftedDown(one, s.node)
	}
	return small
}

func (v *value) class(id int) int {
	if id < len(v.facts) {
		return v.facts[id].class
	}
	return small
}

// ifAlike is the class of what is a number, or x in all bits.
func ifAlike(class int) int {
	if class >= alike {
		return alike
	}
	return free
}

// ifSmall is the class of what is made bit by bit, and is small if so much is.
func ifSmall(class, needed int) int {
	if class >= cut && needed == small {
		return small
	}
	return min(class, cut)
}

// shiftedDown is the class of what is shifted down: what a cut took away can't come down. By what is not known it is x in all bits, however wide.
func (v *value) shiftedDown(class, by int) int {
	n := v.nodes[by]
	switch {
	case class != small:
		return free
	case n.Kind == api.NdConst && strings.Trim(n.Value, "01") == "":
		return small
	}
	return alike
}
