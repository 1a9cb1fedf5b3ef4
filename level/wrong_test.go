package level_test

import (
	"reflect"
	"silkworm/api"
	"silkworm/level"
	"silkworm/lower"
	"slices"
	"testing"
)

func TestLv1Refused(t *testing.T) {
	good := netlist("in; not 0; flip 0 1; delay 2; and 1 3")
	levelsAre(t, good, []int{0, 1, 1, 0, 2})
	for name, spoil := range map[string]func(l *api.Netlist){
		"a kind that there is not":    func(l *api.Netlist) { l.Nodes[1].Kind = 77 },
		"no kind":                     func(l *api.Netlist) { l.Nodes[1] = api.Node{} },
		"an operator that is none":    func(l *api.Netlist) { l.Nodes[1].Op = -5 },
		"a width of none":             func(l *api.Netlist) { l.Nodes[0].Wide = 0 },
		"a width that is too large":   func(l *api.Netlist) { l.Nodes[0].Wide = api.MaxWide + 1 },
		"other widths":                func(l *api.Netlist) { l.Nodes[0].Wide = 2 },
		"one in that is not there":    func(l *api.Netlist) { l.Nodes[1].Ins = []int{5} },
		"one in below all":            func(l *api.Netlist) { l.Nodes[1].Ins = []int{-1} },
		"one in far away":             func(l *api.Netlist) { l.Nodes[4].Ins = []int{1, 1 << 60} },
		"none in":                     func(l *api.Netlist) { l.Nodes[1].Ins = nil },
		"too many in":                 func(l *api.Netlist) { l.Nodes[1].Ins = []int{0, 0} },
		"a flip-flop without a clock": func(l *api.Netlist) { l.Nodes[2].Ins = nil },
		"a flip-flop without data":    func(l *api.Netlist) { l.Nodes[2].Ins = []int{0} },
		"a flip-flop of strange data": func(l *api.Netlist) { l.Nodes[2].Ins = []int{0, 9} },
		"a delay of nothing":          func(l *api.Netlist) { l.Nodes[3].Ins = nil },
		"a delay of what is not":      func(l *api.Netlist) { l.Nodes[3].Ins = []int{9} },
		"a delay without time":        func(l *api.Netlist) { l.Nodes[3].Time = 0 },
		"a delay that is too long":    func(l *api.Netlist) { l.Nodes[3].Time = api.MaxDelay + 1 },
		"a time elsewhere":            func(l *api.Netlist) { l.Nodes[1].Time = 1 },
		"a value elsewhere":           func(l *api.Netlist) { l.Nodes[1].Value = "1" },
		"more ports":                  func(l *api.Netlist) { l.Ports++ },
		"fewer ports":                 func(l *api.Netlist) { l.Ports = -1 },
		"a net that is no node":       func(l *api.Netlist) { l.Nets[0] = 5 },
		"a net below all":             func(l *api.Netlist) { l.Nets[0] = -1 },
		"an input of no net":          func(l *api.Netlist) { l.Nets, l.Ports = nil, 0 },
		"an input of two nets":        func(l *api.Netlist) { l.Nets, l.Ports = []int{0, 0}, 2 },
	} {
		l := netlist("in; not 0; flip 0 1; delay 2; and 1 3")
		spoil(&l)
		if lower.Check(l) != api.ErrArg {
			t.Errorf("%s: a test that may be", name)
		}
		refused(t, l)
		// R2: a netlist that may not be is refused ahead of its loops.
		l = netlist("in; not 0; flip 0 1; delay 2; and 1 3; not 5; and 5 6")
		hasLoop(t, l)
		spoil(&l)
		if lower.Check(l) != api.OK {
			refused(t, l)
		}
	}
}

// leaves is all fields and lists within a value.
func leaves(v reflect.Value) (list []reflect.Value) {
	switch v.Kind() {
	case reflect.Slice:
		list = append(list, v)
		for i := range v.Len() {
			list = append(list, leaves(v.Index(i))...)
		}
	case reflect.Struct:
		for i := range v.NumField() {
			list = append(list, leaves(v.Field(i))...)
		}
	default:
		list = append(list, v)
	}
	return list
}

// spoil makes one thing within a netlist another one.
func (d *dice) spoil(l *api.Netlist) {
	all := leaves(reflect.ValueOf(l).Elem())
	v := all[d.roll(len(all))]
	switch v.Kind() {
	case reflect.Int:
		v.SetInt(int64(d.roll(34) - 3))
	case reflect.String:
		v.SetString(d.one("", "0", "1z", "\x00", "2"))
	case reflect.Slice:
		n := v.Len()
		if d.roll(2) == 0 && n > 0 {
			v.Set(v.Slice(0, n-1))
		} else {
			v.Set(reflect.Append(v.Slice3(0, n, n), reflect.Zero(v.Type().Elem())))
		}
	}
}

// R1: whatever a netlist is, something is told of it, and what layer 9 refuses is refused.
func TestR1Spoilt(t *testing.T) {
	d := dice(11)
	wrong, right := 0, 0
	for i := range 8000 {
		l := makeNetlist(&d, 12, []int{0, 10}[i%2])
		for range 1 + d.roll(3) {
			d.spoil(&l)
			if lower.Check(l) == api.OK {
				told(t, l)
				right++
			} else {
				refused(t, l)
				wrong++
			}
		}
	}
	if wrong < 3000 || right < 500 {
		t.Errorf("%d are refused, %d are not", wrong, right)
	}
}

// filled is a netlist of as many nodes.
func filled(count int, next func(i int) api.Node) api.Netlist {
	l := api.Netlist{Nodes: make([]api.Node, count)}
	for i := range count {
		l.Nodes[i] = next(i)
		if l.Nodes[i].Kind == api.NdIn {
			l.Nets = append(l.Nets, i)
		}
	}
	l.Ports = len(l.Nets)
	return l
}

func filledWith(count int, level func(i int) int) []int {
	out := make([]int, count)
	for i := range out {
		out[i] = level(i)
	}
	return out
}

// Netlists of as many nodes as there may be, and of one more.
func TestLv1Large(t *testing.T) {
	const most = api.MaxNodes
	chain := func(i int) api.Node { return node([]string{"in", "not"}[min(i, 1)], []int{i - 1}[:min(i, 1)]...) }
	back := func(i int) api.Node {
		if i == most-1 {
			return node("in")
		}
		return node("and", i+1, i+1)
	}
	levelsAre(t, filled(most, chain), filledWith(most, func(i int) int { return i }))
	levelsAre(t, filled(most, back), filledWith(most, func(i int) int { return most - 1 - i }))
	refused(t, filled(most+1, chain))
	refused(t, filled(most+1, func(i int) api.Node { return node("not", i) }))
	refused(t, api.Netlist{Nodes: make([]api.Node, 5*most)})
	clocks := func(i int) api.Node {
		if i == 0 {
			return node("in")
		}
		return node("flip", i-1, (i*7)%most)
	}
	levelsAre(t, filled(most, clocks), filledWith(most, func(i int) int { return i }))
	levelsAre(t, filled(most, func(i int) api.Node { return node("delay", (i+1)%most) }), make([]int, most))
	levelsAre(t, filled(most, func(i int) api.Node { return node("const") }), make([]int, most))
	for name, ring := range map[string]func(i int) api.Node{
		"up":    func(i int) api.Node { return node("not", (i+1)%most) },
		"down":  func(i int) api.Node { return node("not", (i+most-1)%most) },
		"jumps": func(i int) api.Node { return node("flip", (i+1001)%most, i) },
	} {
		if loop := hasLoop(t, filled(most, ring)); len(loop) != most {
			t.Errorf("%s: %d nodes", name, len(loop))
		}
	}
	lasso := func(i int) api.Node { return node("not", min(i+1, most-1)) }
	if loop := hasLoop(t, filled(most, lasso)); !slices.Equal(loop, []int{most - 1}) {
		t.Errorf("%d nodes", len(loop))
	}
}

// Many ways lead to one node: none is gone twice.
func TestR1ManyWays(t *testing.T) {
	const most = api.MaxNodes
	for _, far := range []int{2, 3, 60} {
		l := filled(most, func(i int) api.Node {
			if i == 0 {
				return node("const")
			}
			return node("xor", i-1, max(0, i-far))
		})
		levelsAre(t, l, filledWith(most, func(i int) int { return i }))
		l.Nodes[0] = node("and", most-1, 0)
		hasLoop(t, l)
		l.Nodes[0] = node("and", most-1, 1)
		hasLoop(t, l)
	}
	wide := filled(most, func(i int) api.Node {
		if i == 0 {
			return node("const")
		}
		if i%2 == 0 {
			return node("any", i-1)
		}
		ins := make([]int, api.MaxWide)
		for k := range ins {
			ins[k] = max(0, i-1-2*k)
		}
		return node("cat", ins...)
	})
	levelsAre(t, wide, filledWith(most, func(i int) int { return i }))
}

// R3: what is handed in stays as it was, what lies behind the ends of its lists is not read, and nobody else has the lists of an answer.
func TestR3R4Again(t *testing.T) {
	strange := func(list []int) []int { return append(append([]int{}, list...), -7, 1<<50)[:len(list)] }
	d := dice(5)
	for i := range 2000 {
		l := makeNetlist(&d, 20, []int{0, 10}[i%2])
		r := api.Netlist{Nets: strange(l.Nets), Ports: l.Ports}
		for _, n := range l.Nodes {
			n.Ins = strange(n.Ins)
			r.Nodes = append(r.Nodes, n)
		}
		r.Nodes = append(r.Nodes, api.Node{Kind: 77}, node("not", 0))[:len(l.Nodes)]
		before := behind(r)
		want, e := level.Run(l)
		loop := level.Loop(l)
		for range 3 {
			got, again := level.Run(r)
			round := level.Loop(r)
			if again != e || !slices.Equal(got, want) || !slices.Equal(round, loop) {
				t.Fatalf("%s: %v, %d, %v, and once more %v, %d, %v", shown(l), want, e, loop, got, again, round)
			}
			for k := range got {
				got[k] = -1
			}
			for k := range round {
				round[k] = -1
			}
			if behind(r) != before {
				t.Fatalf("%s: changed", before)
			}
		}
	}
}

// behind is a netlist as text, with what lies behind the ends of its lists.
func behind(l api.Netlist) string {
	w := api.Netlist{Nets: l.Nets[:cap(l.Nets)], Ports: l.Ports}
	for _, n := range l.Nodes[:cap(l.Nodes)] {
		n.Ins = n.Ins[:cap(n.Ins)]
		w.Nodes = append(w.Nodes, n)
	}
	return shown(w)
}
