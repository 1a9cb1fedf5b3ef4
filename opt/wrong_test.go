package opt_test

import (
	"fmt"
	"reflect"
	"silkworm/api"
	"silkworm/lower"
	"silkworm/opt"
	"slices"
	"strings"
	"testing"
)

// leaves is all fields and lists within a value.
func leaves(v reflect.Value) (list []reflect.Value) {
	switch v.Kind() {
	case reflect.Slice:
		list = append(list, v)
		for i := range v.Len() {
			list = append(list, leaves(v.Index(i))...)
		}
	case reflect.Struct:
		for i := range v.NumField() {
			list = append(list, leaves(v.Field(i))...)
		}
	default:
		list = append(list, v)
	}
	return list
}

// spoil makes one thing within a netlist another one.
func (d *dice) spoil(l *api.Netlist) {
	all := leaves(reflect.ValueOf(l).Elem())
	v := all[d.roll(len(all))]
	switch v.Kind() {
	case reflect.Int:
		v.SetInt(int64(d.roll(34) - 3))
	case reflect.String:
		v.SetString(d.one("", "0", "1z", "\x00", "2"))
	case reflect.Slice:
		n := v.Len()
		if d.roll(2) == 0 && n > 0 {
			v.Set(v.Slice(0, n-1))
		} else {
			v.Set(reflect.Append(v.Slice3(0, n, n), reflect.Zero(v.Type().Elem())))
		}
	}
}

// R1, R2: what layer 9 refuses is refused.
func TestR1Spoilt(t *testing.T) {
	d := dice(11)
	refused := 0
	for range 2000 {
		l := makeNetlist(&d, 15, true)
		for range 1 + d.roll(3) {
			d.spoil(&l)
			m, e := opt.Run(l, []string{d.one(opt.Passes()...), d.one(opt.Passes()...)})
			if e != lower.Check(l) || e != api.OK && !reflect.DeepEqual(m, api.Netlist{}) || e == api.OK && lower.Check(m) != api.OK {
				t.Fatalf("%v: %v, %d", l, m, e)
			}
			if e != api.OK {
				refused++
			}
		}
	}
	if refused < 1000 {
		t.Errorf("%d are refused", refused)
	}
}

func TestR1Strange(t *testing.T) {
	for _, l := range []api.Netlist{
		{Nodes: []api.Node{{}}}, {Nodes: make([]api.Node, 5000)}, {Nodes: []api.Node{{Kind: api.NdWide, Wide: 1, Ins: []int{1 << 60}}}}, {Ports: -1}, {Nets: []int{-1}, Ports: 1},
		{Nodes: []api.Node{{Kind: api.NdFlip, Wide: 1}}}, {Nodes: []api.Node{{Kind: api.NdOp, Op: -5, Wide: 1}}}, {Nodes: []api.Node{{Kind: api.NdConst, Wide: 1 << 40}}},
	} {
		for _, pass := range append(opt.Passes(), "", "?") {
			if m, e := opt.Run(l, []string{pass}); e != api.ErrArg || !reflect.DeepEqual(m, api.Netlist{}) {
				t.Errorf("%v: %d", m, e)
			}
		}
	}
	long := slices.Repeat([]string{"dead", "fold", "share", "wire"}, 3000)
	done(t, netlist("in 1; not 1 0; wide 1 1 | 0 2"), long...)
	if _, e := opt.Run(api.Netlist{}, append(long, "fold2")); e != api.ErrArg {
		t.Error(e)
	}
}

// large is netlists of as many nodes as there may be.
func large() map[string]api.Netlist {
	out := map[string]api.Netlist{}
	fill := func(name, first string, next func(i int) api.Node) {
		l := netlist(first)
		for i := len(l.Nodes); i < api.MaxNodes; i++ {
			l.Nodes = append(l.Nodes, next(i))
		}
		l.Nets = append(l.Nets, api.MaxNodes-1)
		l.Ports++
		out[name] = l
	}
	fill("a chain", "in 1 | 0", func(i int) api.Node { return api.Node{Kind: api.NdOp, Op: api.OpAnd, Wide: 1, Ins: []int{i - 1, 0}} })
	fill("a chain of constants", "const 1; in 1 | 1", func(i int) api.Node {
		return api.Node{Kind: api.NdOp, Op: api.OpNot, Wide: 1, Ins: []int{[]int{0, i - 1}[min(i-2, 1)]}}
	})
	fill("wires", "in 2; not 2 0 | 0", func(i int) api.Node { return api.Node{Kind: api.NdWide, Wide: 2, Ins: []int{i - 1}} })
	fill("flip-flops", "in 1 | 0", func(i int) api.Node { return api.Node{Kind: api.NdFlip, Wide: 1, Ins: []int{0, i - 1}} })
	fill("flip-flops in a ring", "in 1 | 0", func(i int) api.Node {
		return api.Node{Kind: api.NdFlip, Wide: 1, Ins: []int{0, 1 + i%(api.MaxNodes-1)}}
	})
	fill("pairs", "in 1 | 0", func(i int) api.Node {
		return api.Node{Kind: api.NdOp, Op: api.OpXor, Wide: 1, Ins: []int{max(0, i-2), max(0, i-2)}}
	})
	fill("cats", "in 1 | 0", func(i int) api.Node {
		if i%2 == 0 {
			return api.Node{Kind: api.NdOp, Op: api.OpAnyR, Wide: 1, Ins: []int{i - 1}}
		}
		return api.Node{Kind: api.NdOp, Op: api.OpCat, Wide: 256, Ins: slices.Repeat([]int{i - 1}, 256)}
	})
	for i, n := range out["wires"].Nodes {
		out["wires"].Nodes[i].Ins = slices.Clone(n.Ins)
	}
	back := out["a chain of constants"]
	back.Nodes = slices.Clone(back.Nodes)
	slices.Reverse(back.Nodes)
	for i, n := range back.Nodes {
		back.Nodes[i].Ins = nil
		for _, in := range n.Ins {
			back.Nodes[i].Ins = append(back.Nodes[i].Ins, api.MaxNodes-1-in)
		}
	}
	back.Nets = []int{api.MaxNodes - 2, 0}
	out["backwards"] = back
	return out
}

func TestOp1Large(t *testing.T) {
	want := map[string]map[string]int{
		"fold":  {"a chain": 4096, "a chain of constants": 2, "wires": 4096, "flip-flops": 4096, "flip-flops in a ring": 4096, "pairs": 2049, "cats": 4096, "backwards": 2},
		"share": {"a chain": 4096, "a chain of constants": 4096, "wires": 4096, "flip-flops": 4096, "flip-flops in a ring": 2, "pairs": 2049, "cats": 4096, "backwards": 4096},
		"wire":  {"a chain": 4096, "a chain of constants": 4096, "wires": 2, "flip-flops": 4096, "flip-flops in a ring": 4096, "pairs": 2049, "cats": 4096, "backwards": 4096},
	}
	for name, l := range large() {
		for pass := range want {
			if m := quick(t, l, pass, "dead"); len(m.Nodes) != want[pass][name] {
				t.Errorf("%s, %s: %d nodes, not %d", name, pass, len(m.Nodes), want[pass][name])
			}
		}
	}
}

// quick is what passes make of a netlist that is too large for the other tests.
func quick(t *testing.T, l api.Netlist, passes ...string) api.Netlist {
	t.Helper()
	m, e := opt.Run(l, passes)
	if e != api.OK || lower.Check(m) != api.OK {
		t.Fatalf("%v: %d", passes, e)
	}
	return m
}

// spoilAll writes into all lists of an answer.
func spoilAll(l api.Netlist) {
	for i := range l.Nodes {
		clear(l.Nodes[i].Ins)
	}
	clear(l.Nodes)
	clear(l.Nets)
}

// R3, R4: the same is told again, what is handed in stays as it was, and nobody else has the lists of an answer.
func TestR4Again(t *testing.T) {
	d := dice(13)
	for range 1000 {
		l := makeNetlist(&d, 20, false)
		names := []string{d.one(opt.Passes()...), d.one(opt.Passes()...)}[:d.roll(3)]
		before := fmt.Sprintf("%#v %q", l, names)
		want := fmt.Sprintf("%#v", done(t, l, names...))
		for range 3 {
			m := done(t, l, names...)
			if fmt.Sprintf("%#v", m) != want {
				t.Fatal("another netlist")
			}
			spoilAll(m)
		}
		if fmt.Sprintf("%#v %q", l, names) != before {
			t.Fatal("changed")
		}
	}
}

// No two lists of an answer are the same, not even one that is handed in.
func TestR3ListsAreNew(t *testing.T) {
	d := dice(14)
	for range 500 {
		l := makeNetlist(&d, 20, false)
		m := done(t, l, []string{d.one(opt.Passes()...), d.one(opt.Passes()...)}[:d.roll(3)]...)
		count := map[uintptr]int{}
		for _, x := range []api.Netlist{l, m} {
			for _, n := range x.Nodes {
				if len(n.Ins) > 0 {
					count[reflect.ValueOf(n.Ins).Pointer()]++
				}
			}
			if x.Ports > 0 {
				count[reflect.ValueOf(x.Nets).Pointer()]++
				count[reflect.ValueOf(x.Nodes).Pointer()]++
			}
		}
		for _, n := range count {
			if n > 1 {
				t.Fatalf("%d lists are one", n)
			}
		}
	}
}

// roomy is a netlist whose lists have something behind their ends.
func roomy(l api.Netlist) api.Netlist {
	strange := func(list []int) []int { return append(append([]int{}, list...), -7, 1<<50)[:len(list)] }
	out := api.Netlist{Nets: strange(l.Nets), Ports: l.Ports}
	for _, n := range l.Nodes {
		n.Ins = strange(n.Ins)
		out.Nodes = append(out.Nodes, n)
	}
	out.Nodes = append(out.Nodes, api.Node{Kind: 77}, api.Node{Kind: 78})[:len(l.Nodes)]
	return out
}

func whole(l api.Netlist) string {
	var out strings.Builder
	for _, n := range l.Nodes[:cap(l.Nodes)] {
		fmt.Fprint(&out, n.Kind, n.Op, n.Wide, n.Value, n.Hi, n.Lo, n.Time, n.Ins[:cap(n.Ins)])
	}
	return out.String() + fmt.Sprint(l.Nets[:cap(l.Nets)])
}

func TestR3RoomBehind(t *testing.T) {
	d := dice(15)
	for range 500 {
		l := makeNetlist(&d, 20, false)
		names := []string{d.one(opt.Passes()...), d.one(opt.Passes()...), "behind"}[:2]
		r := roomy(l)
		before := whole(r)
		if m := done(t, r, names...); shown(m) != shown(done(t, l, names...)) || whole(r) != before || names[:3][2] != "behind" {
			t.Fatal("read, or changed")
		}
	}
}
