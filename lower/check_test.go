package lower_test

import (
	"fmt"
	"silkworm/api"
	"silkworm/logic"
	"silkworm/lower"
	"slices"
	"strings"
	"testing"
)

// shapes is what goes into each operator, and how wide it is: w as wide as the node, s all of one width, . of any width; then the node's own width: w any, 1.
func shapes() map[int]string {
	return map[int]string{
		api.OpNot: "w w", api.OpNeg: "w w", api.OpLog: ". 1", api.OpAllR: ". 1", api.OpAnyR: ". 1", api.OpXorR: ". 1",
		api.OpAdd: "ww w", api.OpSub: "ww w", api.OpAnd: "ww w", api.OpOr: "ww w", api.OpXor: "ww w", api.OpShl: "w. w", api.OpShr: "w. w",
		api.OpLt: "ss 1", api.OpLe: "ss 1", api.OpGt: "ss 1", api.OpGe: "ss 1", api.OpEq: "ss 1", api.OpNe: "ss 1",
		api.OpLand: ".. 1", api.OpLor: ".. 1", api.OpCond: ".ww w", api.OpBit: ".. 1",
	}
}

// kindShapes is likewise of the kinds of nodes.
func kindShapes() map[int]string {
	return map[int]string{api.NdConst: " w", api.NdIn: " w", api.NdChoose: ".ww w", api.NdSame: "ss 1", api.NdWide: ". w", api.NdFlip: ".w w", api.NdDelay: "w w"}
}

// shaped tells whether widths are those of a shape.
func shaped(shape string, ins []int, wide int) bool {
	into, own, ok := strings.Cut(shape, " ")
	if !ok || len(into) != len(ins) || own == "1" && wide != 1 {
		return false
	}
	for i, c := range into {
		if c == 'w' && ins[i] != wide || c == 's' && ins[i] != ins[0] {
			return false
		}
	}
	return true
}

// nodeMayBe is the chapter's words on a node, said once more.
func nodeMayBe(n api.Node, wides []int) bool {
	var ins []int
	total := 0
	for _, in := range n.Ins {
		if in < 0 || in >= len(wides) {
			return false
		}
		ins = append(ins, wides[in])
		total += wides[in]
	}
	want := api.Node{Kind: n.Kind, Wide: n.Wide}
	ok := shaped(kindShapes()[n.Kind], ins, n.Wide)
	switch n.Kind {
	case api.NdConst:
		want.Value = n.Value
		ok = ok && len(n.Value) == n.Wide && strings.Trim(n.Value, "01xz") == ""
	case api.NdDelay:
		want.Time = n.Time
		ok = ok && 1 <= n.Time && n.Time <= api.MaxDelay
	case api.NdOp:
		want.Op = n.Op
		ok = shaped(shapes()[n.Op], ins, n.Wide)
		if n.Op == api.OpCat {
			ok = len(ins) > 0 && total == n.Wide
		}
		if n.Op == api.OpPart && len(ins) == 1 {
			want.Hi, want.Lo = n.Hi, n.Lo
			_, e := logic.Part(strings.Repeat("0", ins[0]), n.Hi, n.Lo)
			ok = e == api.OK && n.Wide == n.Hi-n.Lo+1
		}
	}
	return ok && 1 <= n.Wide && n.Wide <= api.MaxWide && fmt.Sprint(want.Op, want.Value, want.Hi, want.Lo, want.Time) == fmt.Sprint(n.Op, n.Value, n.Hi, n.Lo, n.Time)
}

// mayBe is them on a netlist.
func mayBe(l api.Netlist) bool {
	var wides []int
	uses := map[int]int{}
	for _, n := range l.Nodes {
		wides = append(wides, n.Wide)
	}
	for _, n := range l.Nets {
		if n < 0 || n >= len(l.Nodes) {
			return false
		}
		uses[n]++
	}
	for i, n := range l.Nodes {
		if !nodeMayBe(n, wides) || n.Kind == api.NdIn && uses[i] != 1 {
			return false
		}
	}
	return len(l.Nodes) <= api.MaxNodes && l.Ports == len(l.Nets)
}

// among is a netlist of inputs of the widths 1, 2, 3 and 256, and of one node more.
func among(n api.Node) api.Netlist {
	var l api.Netlist
	for i, wide := range []int{1, 2, 3, 256} {
		l.Nodes = append(l.Nodes, api.Node{Kind: api.NdIn, Wide: wide})
		l.Nets = append(l.Nets, i)
	}
	l.Nodes = append(l.Nodes, n)
	if n.Kind == api.NdIn {
		l.Nets = append(l.Nets, 4)
	}
	l.Ports = len(l.Nets)
	return l
}

func checked(t *testing.T, l api.Netlist) bool {
	t.Helper()
	want := api.OK
	if !mayBe(l) {
		want = api.ErrArg
	}
	if e := lower.Check(l); e != want {
		t.Fatalf("%v: %d, not %d", l, e, want)
	}
	return want == api.OK
}

// lists is all lists of up to so many of some numbers.
func lists(most int, of ...int) [][]int {
	all := [][]int{nil}
	for from := 0; most > 0; most-- {
		to := len(all)
		for _, l := range all[from:to] {
			for _, n := range of {
				all = append(all, append(slices.Clone(l), n))
			}
		}
		from = to
	}
	return all
}

// Each kind and operator, with all that may go in, at all widths.
func TestLw1CheckNodes(t *testing.T) {
	good := map[string]int{}
	for kind := -1; kind <= api.NdDelay+1; kind++ {
		for op := -1; op <= api.OpLor+1; op++ {
			if kind != api.NdOp && op > 1 {
				continue
			}
			for _, ins := range lists(4, 0, 1, 2) {
				for _, wide := range []int{-1, 0, 1, 2, 3, 4, 6} {
					n := api.Node{Kind: kind, Op: op, Wide: wide, Ins: ins}
					if kind == api.NdConst && wide > 0 {
						n.Value = "01xz01"[:wide]
					}
					if kind == api.NdDelay {
						n.Time = 3
					}
					if checked(t, among(n)) {
						good[fmt.Sprint(kind, op)]++
					}
				}
			}
		}
	}
	for kind := api.NdConst; kind <= api.NdDelay; kind++ {
		if kind != api.NdOp && good[fmt.Sprint(kind, 0)] == 0 {
			t.Errorf("no node of the kind %d may be", kind)
		}
	}
	for op := api.OpCat; op <= api.OpLor; op++ {
		if good[fmt.Sprint(api.NdOp, op)] == 0 {
			t.Errorf("no operator %d may be", op)
		}
	}
}

// The chapter's list of what goes in, one by one: what may be, and beside it what may not.
func TestLw1CheckShapes(t *testing.T) {
	for _, c := range []struct {
		kind, op  int
		good, bad [][]int // the width ahead of what goes in, by their widths
	}{
		{api.NdIn, 0, [][]int{{1}, {256}}, [][]int{{0}, {257}, {-1}, {1, 1}}},
		{api.NdOp, api.OpNot, [][]int{{1, 1}, {3, 3}}, [][]int{{1, 2}, {1, 1, 1}, {1}}},
		{api.NdOp, api.OpNeg, [][]int{{2, 2}, {256, 256}}, [][]int{{1, 3}, {2, 1}}},
		{api.NdOp, api.OpLog, [][]int{{1, 1}, {1, 3}}, [][]int{{3, 3}, {1}, {1, 1, 1}}},
		{api.NdOp, api.OpAllR, [][]int{{1, 2}}, [][]int{{2, 2}}},
		{api.NdOp, api.OpAnyR, [][]int{{1, 2}}, [][]int{{2, 2}}},
		{api.NdOp, api.OpXorR, [][]int{{1, 2}}, [][]int{{2, 2}}},
		{api.NdOp, api.OpAdd, [][]int{{2, 2, 2}}, [][]int{{2, 1, 2}, {2, 2, 1}, {3, 2, 2}, {2, 2}, {2, 2, 2, 2}}},
		{api.NdOp, api.OpShl, [][]int{{2, 2, 2}, {2, 2, 1}, {2, 2, 256}}, [][]int{{2, 1, 2}, {3, 2, 2}, {2, 2}}},
		{api.NdOp, api.OpShr, [][]int{{3, 3, 1}}, [][]int{{1, 3, 1}}},
		{api.NdOp, api.OpLt, [][]int{{1, 2, 2}, {1, 256, 256}}, [][]int{{1, 2, 3}, {2, 2, 2}, {1, 2}}},
		{api.NdOp, api.OpNe, [][]int{{1, 1, 1}}, [][]int{{1, 1, 2}}},
		{api.NdOp, api.OpLand, [][]int{{1, 2, 3}, {1, 1, 1}}, [][]int{{2, 2, 2}, {1, 1}, {1, 1, 1, 1}}},
		{api.NdOp, api.OpLor, [][]int{{1, 3, 2}}, [][]int{{2, 2, 2}}},
		{api.NdOp, api.OpCond, [][]int{{2, 1, 2, 2}, {1, 3, 1, 1}}, [][]int{{2, 2, 2, 1}, {2, 2, 1, 2}, {2, 2, 2}, {1, 2, 2, 2}}},
		{api.NdOp, api.OpBit, [][]int{{1, 1, 2}, {1, 256, 1}}, [][]int{{2, 2, 2}, {1, 2}, {1, 2, 2, 2}}},
		{api.NdOp, api.OpCat, [][]int{{1, 1}, {6, 3, 2, 1}, {256, 256}}, [][]int{{1}, {5, 3, 1}, {257, 256, 1}}},
		{api.NdOp, api.OpNum, nil, [][]int{{1}, {1, 1}}},
		{api.NdOp, api.OpName, nil, [][]int{{1}, {1, 1}}},
		{api.NdChoose, 0, [][]int{{2, 1, 2, 2}, {2, 3, 2, 2}}, [][]int{{2, 1, 2, 1}, {2, 1, 1, 2}, {2, 2, 2}, {1, 2, 2, 2}}},
		{api.NdSame, 0, [][]int{{1, 2, 2}, {1, 1, 1}}, [][]int{{1, 2, 1}, {2, 2, 2}, {1, 1}, {1, 1, 1, 1}}},
		{api.NdWide, 0, [][]int{{1, 256}, {256, 1}, {2, 2}}, [][]int{{0, 1}, {257, 1}, {1}, {1, 1, 1}}},
		{api.NdFlip, 0, [][]int{{2, 1, 2}, {2, 3, 2}}, [][]int{{2, 2, 1}, {1, 1, 2}, {2, 2}, {2, 2, 2, 2}}},
	} {
		for i, l := range append(slices.Clone(c.good), c.bad...) {
			n := api.Node{Kind: c.kind, Op: c.op, Wide: l[0]}
			for _, wide := range l[1:] {
				n.Ins = append(n.Ins, map[int]int{1: 0, 2: 1, 3: 2, 256: 3}[wide])
			}
			want := api.OK
			if i >= len(c.good) {
				want = api.ErrArg
			}
			if e := lower.Check(among(n)); e != want {
				t.Errorf("%v, by widths %v: %d, not %d", n, l, e, want)
			}
		}
	}
}

// The fields of constants, parts and delays, and those that have no meaning.
func TestLw1CheckFields(t *testing.T) {
	base := []api.Node{
		{Kind: api.NdConst, Wide: 2, Value: "1z"}, {Kind: api.NdIn, Wide: 2}, {Kind: api.NdOp, Op: api.OpNot, Wide: 2, Ins: []int{1}},
		{Kind: api.NdOp, Op: api.OpPart, Wide: 2, Ins: []int{2}, Hi: 2, Lo: 1}, {Kind: api.NdOp, Op: api.OpBit, Wide: 1, Ins: []int{2, 0}},
		{Kind: api.NdOp, Op: api.OpCat, Wide: 3, Ins: []int{0, 1}}, {Kind: api.NdChoose, Wide: 2, Ins: []int{0, 1, 1}}, {Kind: api.NdSame, Wide: 1, Ins: []int{1, 1}},
		{Kind: api.NdWide, Wide: 2, Ins: []int{0}}, {Kind: api.NdFlip, Wide: 2, Ins: []int{0, 1}}, {Kind: api.NdDelay, Wide: 2, Ins: []int{1}, Time: 5},
	}
	for _, n := range base {
		if lower.Check(among(n)) != api.OK {
			t.Errorf("%v may be", n)
		}
		for _, change := range []func(*api.Node){
			func(n *api.Node) { n.Op++ }, func(n *api.Node) { n.Op = -1 }, func(n *api.Node) { n.Value += "0" }, func(n *api.Node) { n.Value = "2 1" },
			func(n *api.Node) { n.Hi++ }, func(n *api.Node) { n.Hi-- }, func(n *api.Node) { n.Lo++ }, func(n *api.Node) { n.Lo-- }, func(n *api.Node) { n.Time-- },
			func(n *api.Node) { n.Time++ }, func(n *api.Node) { n.Time = 0 }, func(n *api.Node) { n.Time = api.MaxDelay }, func(n *api.Node) { n.Time = api.MaxDelay + 1 },
			func(n *api.Node) { n.Value = "" }, func(n *api.Node) { n.Value = "0" }, func(n *api.Node) { n.Value = "a0" }, func(n *api.Node) { n.Value = "X0" },
			func(n *api.Node) { n.Kind = 0 }, func(n *api.Node) { n.Kind = api.NdDelay + 1 }, func(n *api.Node) { n.Ins = append(n.Ins, 0) },
			func(n *api.Node) { n.Hi, n.Lo = 1, 0 }, func(n *api.Node) { n.Hi, n.Lo = 3, 2 }, func(n *api.Node) { n.Hi, n.Lo = 0, -1 }, func(n *api.Node) { n.Hi, n.Lo, n.Wide = 1, 1, 1 },
			func(n *api.Node) { n.Hi, n.Lo, n.Wide = 1, 2, 0 }, func(n *api.Node) { n.Hi, n.Lo, n.Wide = 2, 0, 3 },
		} {
			other := n
			other.Ins = slices.Clone(n.Ins)
			change(&other)
			checked(t, among(other))
		}
		for i := range n.Ins {
			for _, in := range []int{-1, 5, 6, 1 << 40, -1 << 63} {
				other := n
				other.Ins = slices.Clone(n.Ins)
				other.Ins[i] = in
				if lower.Check(among(other)) != api.ErrArg {
					t.Errorf("%v: what goes in is not there", other)
				}
			}
		}
	}
}

// A node may go into itself: loops are another layer's.
func TestLw1CheckLoops(t *testing.T) {
	for _, n := range []api.Node{{Kind: api.NdWide, Wide: 2, Ins: []int{4}}, {Kind: api.NdFlip, Wide: 2, Ins: []int{4, 4}}, {Kind: api.NdDelay, Wide: 2, Ins: []int{4}, Time: 1}, {Kind: api.NdOp, Op: api.OpAdd, Wide: 2, Ins: []int{4, 1}}} {
		if lower.Check(among(n)) != api.OK {
			t.Errorf("%v may be", n)
		}
	}
}

func TestLw1CheckPorts(t *testing.T) {
	in := api.Node{Kind: api.NdIn, Wide: 1}
	gate := api.Node{Kind: api.NdOp, Op: api.OpNot, Wide: 1, Ins: []int{0}}
	nodes := []api.Node{in, gate, in}
	for _, c := range []struct {
		nodes []api.Node
		nets  []int
		ports int
		want  api.Errno
	}{
		{nil, nil, 0, api.OK}, {nil, nil, 1, api.ErrArg}, {nil, nil, -1, api.ErrArg}, {nil, []int{0}, 1, api.ErrArg}, {[]api.Node{}, []int{}, 0, api.OK},
		{nodes, []int{0, 2}, 2, api.OK}, {nodes, []int{2, 0}, 2, api.OK}, {nodes, []int{1, 2, 1, 0, 1}, 5, api.OK},
		{nodes, []int{0, 1}, 2, api.ErrArg}, {nodes, []int{0}, 1, api.ErrArg}, {nodes, []int{0, 2, 0}, 3, api.ErrArg}, {nodes, []int{2, 2}, 2, api.ErrArg},
		{nodes, []int{0, 2}, 1, api.ErrArg}, {nodes, []int{0, 2}, 3, api.ErrArg}, {nodes, []int{0, 2, 3}, 3, api.ErrArg}, {nodes, []int{0, 2, -1}, 3, api.ErrArg},
		{nodes[:2], []int{0, 2}[:1], 1, api.OK}, {nodes[:2], []int{1}, 1, api.ErrArg},
	} {
		l := api.Netlist{Nodes: c.nodes, Nets: c.nets, Ports: c.ports}
		if e := lower.Check(l); e != c.want {
			t.Errorf("%v: %d, not %d", l, e, c.want)
		}
		checked(t, l)
	}
}

func TestLw1CheckLimits(t *testing.T) {
	list := func(n int) api.Netlist {
		return api.Netlist{Nodes: slices.Repeat([]api.Node{{Kind: api.NdConst, Wide: 1, Value: "0"}}, n)}
	}
	for n, want := range map[int]api.Errno{1: api.OK, 4095: api.OK, 4096: api.OK, 4097: api.ErrArg, 1 << 20: api.ErrArg} {
		if e := lower.Check(list(n)); e != want {
			t.Errorf("%d nodes: %d, not %d", n, e, want)
		}
	}
	l := list(1)
	l.Nets, l.Ports = slices.Repeat([]int{0}, 1<<16), 1<<16
	if lower.Check(l) != api.OK {
		t.Error("many nets may be one node")
	}
	for wide, want := range map[int]api.Errno{256: api.OK, 257: api.ErrArg} {
		l = list(1)
		l.Nodes[0] = api.Node{Kind: api.NdConst, Wide: wide, Value: strings.Repeat("z", wide)}
		if e := lower.Check(l); e != want {
			t.Errorf("a constant of %d bits: %d, not %d", wide, e, want)
		}
	}
	// Widths that are far too large do not come to a sum that may be.
	l = list(1)
	l.Nodes = append(l.Nodes, slices.Repeat([]api.Node{{Kind: api.NdWide, Wide: 1 << 62, Ins: []int{0}}}, 4)...)
	l.Nodes = append(l.Nodes, api.Node{Kind: api.NdOp, Op: api.OpCat, Wide: 1, Ins: []int{1, 2, 3, 4, 0}})
	if lower.Check(l) != api.ErrArg {
		t.Error("widths beyond MaxWide")
	}
	l = list(1)
	l.Nodes = append(l.Nodes, api.Node{Kind: api.NdOp, Op: api.OpCat, Wide: 1, Ins: make([]int, 1<<20)})
	if lower.Check(l) != api.ErrArg {
		t.Error("a list of very many")
	}
}

// What was made up, and one field of it changed.
func TestLw1CheckMadeUp(t *testing.T) {
	d := dice(5)
	good, bad := 0, 0
	for range 60000 {
		n := api.Node{Kind: 1 + d.roll(8), Wide: 1 + d.roll(3)}
		for range d.roll(4) {
			n.Ins = append(n.Ins, d.roll(5))
		}
		switch n.Kind {
		case api.NdConst:
			n.Value = "0x1z"[:1+d.roll(4)]
		case api.NdOp:
			n.Op = d.roll(29)
			if d.roll(3) == 0 {
				n.Op = api.OpPart
				n.Hi = d.roll(4)
				n.Lo = d.roll(n.Hi + 1)
			}
		case api.NdDelay:
			n.Time = d.roll(3)
		}
		if d.roll(8) == 0 {
			[]func(){func() { n.Time++ }, func() { n.Hi++ }, func() { n.Lo-- }, func() { n.Op++ }, func() { n.Value += "1" }, func() { n.Wide = 256 }}[d.roll(6)]()
		}
		l := among(n)
		if d.roll(10) == 0 {
			l.Nets = append(l.Nets, d.roll(6))
			l.Ports += d.roll(2)
		}
		if checked(t, l) {
			good++
		} else {
			bad++
		}
	}
	if good < 1000 || bad < 1000 {
		t.Errorf("%d may be, %d may not", good, bad)
	}
}
