package part_test

import (
	"reflect"
	"silkworm/api"
	"silkworm/level"
	"silkworm/lower"
	"silkworm/part"
	"slices"
	"testing"
)

const plain = "in; not 0; flip 0 1; delay 2 4; and 3 3"

// What layer 9 refuses is refused, ahead of its loops, whatever the parts are.
func TestPa1Refused(t *testing.T) {
	good := parts("0 0 0 1 1", "0 4; 0 0")
	checks(t, netlist(plain), good, api.OK)
	for name, spoil := range map[string]func(l *api.Netlist){
		"a kind that there is not":    func(l *api.Netlist) { l.Nodes[1].Kind = 77 },
		"no kind":                     func(l *api.Netlist) { l.Nodes[1] = api.Node{} },
		"an operator that is none":    func(l *api.Netlist) { l.Nodes[1].Op = -5 },
		"a width of none":             func(l *api.Netlist) { l.Nodes[0].Wide = 0 },
		"other widths":                func(l *api.Netlist) { l.Nodes[0].Wide = 2 },
		"one in that is not there":    func(l *api.Netlist) { l.Nodes[1].Ins = []int{7} },
		"one in below all":            func(l *api.Netlist) { l.Nodes[1].Ins = []int{-1} },
		"one in far away":             func(l *api.Netlist) { l.Nodes[4].Ins = []int{3, 1 << 60} },
		"none in":                     func(l *api.Netlist) { l.Nodes[1].Ins = nil },
		"a flip-flop without data":    func(l *api.Netlist) { l.Nodes[2].Ins = []int{0} },
		"a flip-flop of strange data": func(l *api.Netlist) { l.Nodes[2].Ins = []int{0, 9} },
		"a delay of nothing":          func(l *api.Netlist) { l.Nodes[3].Ins = nil },
		"a delay of two":              func(l *api.Netlist) { l.Nodes[3].Ins = []int{2, 2} },
		"a delay of what is not":      func(l *api.Netlist) { l.Nodes[3].Ins = []int{9} },
		"a delay without time":        func(l *api.Netlist) { l.Nodes[3].Time = 0 },
		"a delay of a time below 0":   func(l *api.Netlist) { l.Nodes[3].Time = -4 },
		"a delay that is too long":    func(l *api.Netlist) { l.Nodes[3].Time = api.MaxDelay + 1 },
		"a time elsewhere":            func(l *api.Netlist) { l.Nodes[1].Time = 1 },
		"more ports":                  func(l *api.Netlist) { l.Ports++ },
		"a net that is no node":       func(l *api.Netlist) { l.Nets[0] = 7 },
		"an input of no net":          func(l *api.Netlist) { l.Nets, l.Ports = nil, 0 },
		"an input of two nets":        func(l *api.Netlist) { l.Nets, l.Ports = []int{0, 0}, 2 },
	} {
		for _, text := range []string{plain, plain + "; not 5; not 6"} {
			l := netlist(text)
			spoil(&l)
			if lower.Check(l) != api.ErrArg {
				t.Errorf("%s: a test that may be", name)
			}
			for _, n := range []int{0, 1, 2, 64, 65} {
				refused(t, l, n, api.ErrArg)
			}
			p := parts("0 0 0 1 1", "0 4; 0 0")
			p.Of = append(p.Of, 1, 1)[:len(l.Nodes)]
			checks(t, l, p, api.ErrArg)
		}
	}
	refused(t, netlist(plain+"; not 5; not 6"), 2, api.ErrLoop)
}

// As many parts, and as many nodes, as there may be, and one more.
func TestPa1Limits(t *testing.T) {
	ring := func(count int) api.Netlist {
		return filled(count, func(i int) api.Node { return node("delay", (i+1)%count, i+1) })
	}
	for _, count := range []int{1, 2, 63, 64, 65, 128, 4096} {
		l := ring(count)
		for _, n := range []int{1, 2, 3, 63, 64} {
			p := parted(t, l, n)
			load := make([]int, p.N)
			for _, k := range p.Of {
				load[k]++
			}
			if p.N != min(n, count) || slices.Max(load)-slices.Min(load) > 1 {
				t.Errorf("%d in %d: %d parts of %v", count, n, p.N, load)
			}
		}
		refused(t, l, 65, api.ErrArg)
	}
	refused(t, ring(4097), 64, api.ErrArg)
	for _, count := range []int{63, 64, 65} {
		l, of := ring(count), make([]int, count)
		for i := range of {
			of[i] = i
		}
		want := api.OK
		if count > 64 {
			want = api.ErrArg
		}
		checks(t, l, withAhead(l, of, count), want)
	}
	l := ring(4097)
	checks(t, l, api.Parts{Of: make([]int, 4097), N: 1, Ahead: [][]int{{0}}}, api.ErrArg)
	l = ring(4096)
	checks(t, l, api.Parts{Of: make([]int, 4096), N: 1, Ahead: [][]int{{0}}}, api.OK)
	checks(t, l, api.Parts{Of: make([]int, 1<<20), N: 1, Ahead: [][]int{{0}}}, api.ErrArg)
	checks(t, l, api.Parts{Of: make([]int, 4096), N: 1, Ahead: make([][]int, 1<<20)}, api.ErrArg)
	checks(t, l, api.Parts{Of: make([]int, 4096), N: 1, Ahead: [][]int{make([]int, 1<<20)}}, api.ErrArg)
}

// leaves is all fields and lists within a value.
func leaves(v reflect.Value) (list []reflect.Value) {
	switch v.Kind() {
	case reflect.Slice:
		list = append(list, v)
		for i := range v.Len() {
			list = append(list, leaves(v.Index(i))...)
		}
	case reflect.Struct:
		for i := range v.NumField() {
			list = append(list, leaves(v.Field(i))...)
		}
	default:
		list = append(list, v)
	}
	return list
}

// spoil makes one thing within something another one.
func (d *dice) spoil(what reflect.Value) {
	all := leaves(what.Elem())
	v := all[d.roll(len(all))]
	switch v.Kind() {
	case reflect.Int:
		v.SetInt(int64(d.roll(34) - 3))
	case reflect.String:
		v.SetString(d.one("", "0", "1z", "\x00", "2"))
	case reflect.Slice:
		n := v.Len()
		if d.roll(2) == 0 && n > 0 {
			v.Set(v.Slice(0, n-1))
		} else {
			v.Set(reflect.Append(v.Slice3(0, n, n), reflect.Zero(v.Type().Elem())))
		}
	}
}

// R1: whatever netlists and parts are, something is told of them, and the right thing.
func TestR1Spoilt(t *testing.T) {
	d := dice(11)
	wrong, right, apart := 0, 0, 0
	for i := range 6000 {
		l := makeNetlist(&d, 12, []int{20, 50}[i%2])
		p := parted(t, l, 1+d.roll(6))
		for range 1 + d.roll(3) {
			if d.roll(2) == 0 {
				d.spoil(reflect.ValueOf(&l))
			} else {
				d.spoil(reflect.ValueOf(&p))
			}
			if mayBe(l, p) {
				checks(t, l, p, api.OK)
				right++
			} else {
				checks(t, l, p, api.ErrArg)
				wrong++
			}
			switch n := d.roll(68) - 1; {
			case lower.Check(l) != api.OK || n < 1 || n > 64 || len(l.Nodes) == 0:
				refused(t, l, n, api.ErrArg)
			case len(level.Loop(l)) > 0:
				refused(t, l, n, api.ErrLoop)
			default:
				parted(t, l, n)
				apart++
			}
		}
	}
	if wrong < 5000 || right < 300 || apart < 3000 {
		t.Errorf("%d are refused, %d are not, %d are parted", wrong, right, apart)
	}
}

// roomy is a list with something strange behind its end.
func roomy(list []int) []int {
	return append(append([]int{}, list...), -7, 1<<50)[:len(list)]
}

// roomyNetlist is a netlist as another one, with something strange behind the ends of its lists.
func roomyNetlist(l api.Netlist) api.Netlist {
	r := api.Netlist{Nets: roomy(l.Nets), Ports: l.Ports}
	for _, n := range l.Nodes {
		n.Ins = roomy(n.Ins)
		r.Nodes = append(r.Nodes, n)
	}
	r.Nodes = append(r.Nodes, api.Node{Kind: 77}, node("not", 0))[:len(l.Nodes)]
	return r
}

func roomyParts(p api.Parts) api.Parts {
	r := api.Parts{Of: roomy(p.Of), N: p.N}
	for _, list := range p.Ahead {
		r.Ahead = append(r.Ahead, roomy(list))
	}
	r.Ahead = append(r.Ahead, []int{-1}, nil)[:len(p.Ahead)]
	return r
}

// behind is a netlist and parts as a text, with what lies behind the ends of their lists.
func behind(l api.Netlist, p api.Parts) string {
	w := api.Netlist{Nets: l.Nets[:cap(l.Nets)], Ports: l.Ports}
	for _, n := range l.Nodes[:cap(l.Nodes)] {
		n.Ins = n.Ins[:cap(n.Ins)]
		w.Nodes = append(w.Nodes, n)
	}
	q := api.Parts{Of: p.Of[:cap(p.Of)], N: p.N}
	for _, list := range p.Ahead[:cap(p.Ahead)] {
		q.Ahead = append(q.Ahead, list[:cap(list)])
	}
	return shown(w) + told(q)
}

// R3, R4: what is handed in stays as it was, what lies behind the ends of its lists is not read, nobody else has the lists of an answer, and once more the same is told.
func TestR3R4Again(t *testing.T) {
	d := dice(5)
	for range 2000 {
		l := makeNetlist(&d, 20, 40)
		n := 1 + d.roll(8)
		want := parted(t, l, n)
		r, q := roomyNetlist(l), roomyParts(want)
		before := behind(r, q)
		for range 3 {
			checks(t, r, q, api.OK)
			got, e := part.Run(r, n)
			if e != api.OK || told(got) != told(want) {
				t.Fatalf("%s: %s, and once more %s, %d", shown(l), told(want), told(got), e)
			}
			spoilLists(got)
			if behind(r, q) != before {
				t.Fatalf("%s: changed", before)
			}
		}
	}
}

// spoilLists writes to all of the room of an answer's lists.
func spoilLists(p api.Parts) {
	fill := func(list []int) {
		for i := range list[:cap(list)] {
			list[:cap(list)][i] = -9
		}
	}
	fill(p.Of)
	for _, list := range p.Ahead {
		fill(list)
	}
}

// R3: no two lists of an answer share anything, nor the room behind their ends.
func TestR3Apart(t *testing.T) {
	l := filled(12, func(i int) api.Node { return node("delay", (i+5)%12, i+1) })
	want := parted(t, l, 4)
	for k := range want.Ahead {
		p := parted(t, l, 4)
		list := append(p.Ahead[k], 77)
		for i := range list {
			list[i] = 77
		}
		p.Ahead[k] = want.Ahead[k]
		if told(p) != told(want) {
			t.Errorf("%d: %s, not %s", k, told(p), told(want))
		}
	}
	p := parted(t, l, 4)
	spoilLists(api.Parts{Of: append(p.Of, 1)[:12]})
	if p.Of = want.Of; told(p) != told(want) {
		t.Errorf("%s, not %s", told(p), told(want))
	}
}

// nil and the empty list are the same.
func TestR3Empty(t *testing.T) {
	l := api.Netlist{Nodes: []api.Node{{Kind: api.NdConst, Wide: 1, Value: "z", Ins: []int{}}, {Kind: api.NdDelay, Wide: 1, Ins: []int{0}, Time: 1}}, Nets: []int{}}
	checks(t, l, parts("0 1", "0 1; 0 0"), api.OK)
	m := l
	m.Nets = nil
	checks(t, m, parts("0 1", "0 1; 0 0"), api.OK)
	if told(parted(t, l, 2)) != told(parted(t, m, 2)) {
		t.Error("not the same")
	}
	checks(t, l, api.Parts{Of: []int{}, N: 2, Ahead: [][]int{{}, {}}}, api.ErrArg)
	checks(t, l, api.Parts{N: 2, Ahead: [][]int{nil, nil}}, api.ErrArg)
}
