package engine_test

import (
	"cmp"
	"reflect"
	"silkworm/api"
	"silkworm/engine"
	"silkworm/lower"
	"slices"
	"strings"
	"testing"
)

// given is what a call is given.
type given struct {
	Netlist api.Netlist
	Stim    []api.Change
	Horizon int
}

// sound is something that may be run: two inputs among four nets. With a loop it is refused for that alone.
func sound(loop bool) given {
	text := "not 1 1; in 1; in 2; flip 2 1 2; delay@2 2 3"
	if loop {
		text += "; and 2 5 2"
	}
	return given{Netlist: netlist(text + "| 4 1 0 2"), Stim: changes("0 1 0, 0 3 01, 2 1 1, 2 3 x0, 5 1 z"), Horizon: 9}
}

func TestEn1Refused(t *testing.T) {
	for name, spoil := range map[string]func(g *given){
		"a kind that there is not":       func(g *given) { g.Netlist.Nodes[0].Kind = 77 },
		"a node of no kind":              func(g *given) { g.Netlist.Nodes[0] = api.Node{} },
		"one in that is not there":       func(g *given) { g.Netlist.Nodes[0].Ins = []int{7} },
		"one in below all":               func(g *given) { g.Netlist.Nodes[0].Ins = []int{-1} },
		"a flip-flop without data":       func(g *given) { g.Netlist.Nodes[3].Ins = []int{1} },
		"a delay of nothing":             func(g *given) { g.Netlist.Nodes[4].Ins = nil },
		"a delay without time":           func(g *given) { g.Netlist.Nodes[4].Time = 0 },
		"a delay that is too long":       func(g *given) { g.Netlist.Nodes[4].Time = api.MaxDelay + 1 },
		"another width":                  func(g *given) { g.Netlist.Nodes[3].Wide = 1 },
		"more ports":                     func(g *given) { g.Netlist.Ports++ },
		"an input of no net":             func(g *given) { g.Netlist.Nets[3] = 3 },
		"an input of two nets":           func(g *given) { g.Netlist.Nets[2] = 2 },
		"a net that is no node":          func(g *given) { g.Netlist.Nets[0] = 99 },
		"too many nodes":                 func(g *given) { g.Netlist.Nodes = slices.Repeat(g.Netlist.Nodes, 900) },
		"a net that is not there":        func(g *given) { g.Stim[4].Net = 4 },
		"a net below all":                func(g *given) { g.Stim[0].Net = -1 },
		"a net far away":                 func(g *given) { g.Stim[4].Net = 1 << 62 },
		"a delay's net":                  func(g *given) { g.Stim[0] = api.Change{Net: 0, Value: "01"} },
		"a gate's net":                   func(g *given) { g.Stim[4].Net = 2 },
		"a node's number":                func(g *given) { g.Stim[4] = api.Change{Time: 5, Net: 2, Value: "01"} },
		"no value":                       func(g *given) { g.Stim[0].Value = "" },
		"a value that is too short":      func(g *given) { g.Stim[1].Value = "1" },
		"a value that is too long":       func(g *given) { g.Stim[1].Value = "011" },
		"a value of other bytes":         func(g *given) { g.Stim[1].Value = "0X" },
		"a value of strange bytes":       func(g *given) { g.Stim[1].Value = "\x00\xff" },
		"the last value of other bytes":  func(g *given) { g.Stim[4].Value = "2" },
		"a time below 0":                 func(g *given) { g.Stim[0].Time = -1 },
		"a time far below 0":             func(g *given) { g.Stim[0].Time = -1 << 63 },
		"a time above the last one":      func(g *given) { g.Stim[4].Time = api.MaxTime + 1 },
		"a time far above it":            func(g *given) { g.Stim[4].Time = 1<<63 - 1 },
		"times that go down":             func(g *given) { g.Stim[4].Time = 1 },
		"times that go down behind":      func(g *given) { g.Stim[2].Time, g.Stim[3].Time = 6, 6 },
		"nets that go down at one time":  func(g *given) { g.Stim[2], g.Stim[3] = g.Stim[3], g.Stim[2] },
		"a net twice at one time":        func(g *given) { g.Stim[3] = g.Stim[2] },
		"the last net twice at one time": func(g *given) { g.Stim[4].Time, g.Stim[3].Net, g.Stim[3].Value = 2, 1, "0" },
		"a horizon below 0":              func(g *given) { g.Horizon = -1 },
		"a horizon far below 0":          func(g *given) { g.Horizon = -1 << 63 },
		"a horizon above the last time":  func(g *given) { g.Horizon = api.MaxTime + 1 },
		"a horizon far above it":         func(g *given) { g.Horizon = 1<<63 - 1 },
	} {
		t.Run(name, func(t *testing.T) {
			for _, loop := range []bool{false, true} {
				g := sound(loop)
				spoil(&g)
				// R2: what may not be is refused ahead of a loop.
				refused(t, g.Netlist, g.Stim, g.Horizon, api.ErrArg)
			}
		})
	}
	// A stimulus behind the horizon is looked at, too.
	g := sound(false)
	refused(t, g.Netlist, append(g.Stim, api.Change{Time: 99, Net: 9, Value: "0"}), 9, api.ErrArg)
	// Of what has no nets.
	refused(t, api.Netlist{}, []api.Change{{Value: "0"}}, 0, api.ErrArg)
	refused(t, api.Netlist{}, nil, -1, api.ErrArg)
	refused(t, netlist("const 1"), []api.Change{{Value: "0"}}, 0, api.ErrArg)
}

// What is just not refused.
func TestEn1Taken(t *testing.T) {
	for name, change := range map[string]func(g *given){
		"as it is":                  func(g *given) {},
		"no stimulus":               func(g *given) { g.Stim = nil },
		"an empty one":              func(g *given) { g.Stim = []api.Change{} },
		"the horizon 0":             func(g *given) { g.Horizon = 0 },
		"the last horizon":          func(g *given) { g.Horizon = api.MaxTime },
		"the last time":             func(g *given) { g.Stim[4].Time = api.MaxTime },
		"the last net once more":    func(g *given) { g.Stim[4] = api.Change{Time: 3, Net: 1, Value: "0"} },
		"the same value":            func(g *given) { g.Stim[2].Value = "0" },
		"all behind the horizon":    func(g *given) { g.Stim = changes("10 1 1, 11 3 00"); g.Horizon = 9 },
		"the same time, other nets": func(g *given) { g.Stim = changes("4 1 1, 4 3 00") },
	} {
		g := sound(false)
		change(&g)
		t.Run(name, func(t *testing.T) { run(t, g.Netlist, g.Stim, g.Horizon) })
		g = sound(true)
		change(&g)
		refused(t, g.Netlist, g.Stim, g.Horizon, api.ErrLoop)
	}
}

func TestEn1Loops(t *testing.T) {
	for _, text := range []string{"not 1 0", "not 1 1; not 1 0", "in 1; flip 1 1 0", "in 1; flip 1 2 0; not 1 1", "in 1; delay@1 1 2; and 1 2 1", "in 1; choose 1 0 0 1 | 0"} {
		refused(t, netlist(text), nil, 5, api.ErrLoop)
	}
	for _, text := range []string{"delay@1 1 0", "delay@1 1 1; not 1 0", "in 1; flip 1 0 1", "in 1; flip 1 0 2; not 1 1", "in 1; flip 1 2 1; delay@1 1 1"} {
		run(t, netlist(text), nil, 5)
	}
	for source, want := range map[string]api.Errno{
		"module m(output a, output b); assign a = b; assign b = a; endmodule":    api.ErrLoop,
		"module m(output a, output b); assign #1 a = b; assign b = a; endmodule": api.OK,
	} {
		if e := engine.Check(lowered(t, source), nil, 5); e != want {
			t.Errorf("%s: %d, not %d", source, e, want)
		}
	}
}

// leaves is all fields and lists within a value.
func leaves(v reflect.Value) (list []reflect.Value) {
	switch v.Kind() {
	case reflect.Slice:
		list = append(list, v)
		for i := range v.Len() {
			list = append(list, leaves(v.Index(i))...)
		}
	case reflect.Struct:
		for i := range v.NumField() {
			list = append(list, leaves(v.Field(i))...)
		}
	default:
		list = append(list, v)
	}
	return list
}

// spoil makes one thing within what is given another one.
func (d *dice) spoil(given any) {
	all := leaves(reflect.ValueOf(given).Elem())
	v := all[d.roll(len(all))]
	switch v.Kind() {
	case reflect.Int:
		v.SetInt([]int64{int64(d.roll(34) - 3), v.Int() + 1, v.Int() - 1, 1 << 62, 1<<62 - 1, -1 << 63}[d.roll(6)])
	case reflect.String:
		v.SetString(d.one("", "0", "1z", "\x00", "2", "x"))
	case reflect.Slice:
		n := v.Len()
		if d.roll(2) == 0 && n > 0 {
			v.Set(v.Slice(0, n-1))
		} else {
			v.Set(reflect.Append(v.Slice3(0, n, n), reflect.Zero(v.Type().Elem())))
		}
	}
}

// mayBe is whether something may be run, loops aside, said once more.
func mayBe(g given) bool {
	if lower.Check(g.Netlist) != api.OK || g.Horizon < 0 || g.Horizon >= 1<<62 {
		return false
	}
	sorted := slices.SortedStableFunc(slices.Values(g.Stim), func(a, b api.Change) int {
		return cmp.Or(cmp.Compare(a.Time, b.Time), cmp.Compare(a.Net, b.Net))
	})
	for i, c := range g.Stim {
		if c != sorted[i] || i > 0 && c.Time == sorted[i-1].Time && c.Net == sorted[i-1].Net || uint(c.Time) >= 1<<62 || uint(c.Net) >= uint(len(g.Netlist.Nets)) {
			return false
		}
		n := g.Netlist.Nodes[g.Netlist.Nets[c.Net]]
		if n.Kind != api.NdIn || n.Wide != len(c.Value) || strings.Trim(c.Value, "01xz") != "" {
			return false
		}
	}
	return true
}

// R1: whatever is given, something is told, and what may not be is refused.
func TestR1Spoilt(t *testing.T) {
	d := dice(11)
	count := map[api.Errno]int{}
	for range 12000 {
		g := given{Netlist: makeNetlist(&d, 8), Horizon: d.roll(8)}
		g.Stim = makeStimulus(&d, g.Netlist, 4)
		if n := len(g.Netlist.Nodes); d.roll(5) == 0 {
			g.Netlist.Nodes = append(g.Netlist.Nodes, api.Node{Kind: api.NdOp, Op: api.OpNot, Wide: 1, Ins: []int{n}})
		}
		if d.roll(3) == 0 {
			d.spoil(&g.Netlist)
		}
		for range d.roll(3) {
			d.spoil(&g.Stim)
		}
		if d.roll(20) == 0 {
			d.spoil(&g.Horizon)
		}
		want := api.OK
		if !mayBe(g) {
			want = api.ErrArg
		} else if hasLoop(g.Netlist) {
			want = api.ErrLoop
		}
		count[want]++
		if want != api.OK {
			refused(t, g.Netlist, g.Stim, g.Horizon, want)
		} else if g.Horizon < 20 {
			again(t, g.Netlist, g.Stim, g.Horizon)
		}
	}
	if count[api.OK] < 2000 || count[api.ErrArg] < 3000 || count[api.ErrLoop] < 500 {
		t.Error(count)
	}
}

// roomy is what is given with something behind the ends of its lists.
func roomy(g given) given {
	strange := func(list []int) []int { return append(append([]int{}, list...), -7, 1<<50)[:len(list)] }
	out := given{Netlist: api.Netlist{Nets: strange(g.Netlist.Nets), Ports: g.Netlist.Ports}, Horizon: g.Horizon}
	for _, n := range g.Netlist.Nodes {
		n.Ins = strange(n.Ins)
		out.Netlist.Nodes = append(out.Netlist.Nodes, n)
	}
	out.Netlist.Nodes = append(out.Netlist.Nodes, api.Node{Kind: 77}, api.Node{Kind: api.NdDelay})[:len(g.Netlist.Nodes)]
	out.Stim = append(slices.Clone(g.Stim), api.Change{Time: 5, Net: -3, Value: "?"}, api.Change{Time: 1})[:len(g.Stim)]
	return out
}

// behind is what is given with what lies behind the ends of its lists, copied.
func behind(g given) given {
	out := given{Netlist: api.Netlist{Nets: slices.Clone(g.Netlist.Nets[:cap(g.Netlist.Nets)]), Ports: g.Netlist.Ports}, Horizon: g.Horizon}
	for _, n := range g.Netlist.Nodes[:cap(g.Netlist.Nodes)] {
		n.Ins = slices.Clone(n.Ins[:cap(n.Ins)])
		out.Netlist.Nodes = append(out.Netlist.Nodes, n)
	}
	out.Stim = slices.Clone(g.Stim[:cap(g.Stim)])
	return out
}

// R3, R4: the same is told again, what is given stays as it was, what lies behind the ends of its lists is not read, and nobody else has the lists of an answer.
func TestR3R4Again(t *testing.T) {
	d := dice(13)
	for range 1500 {
		g := given{Netlist: makeNetlist(&d, 15), Horizon: 9}
		g.Stim = makeStimulus(&d, g.Netlist, 6)
		want := run(t, g.Netlist, g.Stim, g.Horizon)
		r := roomy(g)
		before := behind(r)
		for range 3 {
			w := run(t, r.Netlist, r.Stim, r.Horizon)
			if !reflect.DeepEqual(w, want) {
				t.Fatalf("%s%v: %v, and once more %v", shown(g.Netlist), g.Stim, want, w)
			}
			for i := range w.First {
				w.Names[i], w.Wides[i], w.First[i] = "name", -1, "?"
			}
			clear(w.List)
			// Something else, and something that is refused, between.
			run(t, netlist("in 1; delay@1 1 0"), changes("0 0 1"), 5)
			refused(t, r.Netlist, r.Stim, -1, api.ErrArg)
		}
		if !reflect.DeepEqual(behind(r), before) {
			t.Fatalf("%s%v: changed", shown(g.Netlist), g.Stim)
		}
	}
}
