package warp_test

import (
	"silkworm/api"
	"silkworm/lp"
	"silkworm/warp"
	"slices"
	"testing"
)

// refused tells that there is no waveform, and why, whatever the script is.
func (s sim) refused(t *testing.T, want api.Errno) {
	t.Helper()
	for _, script := range [][]api.Pick{nil, picks("1 0, 2 0, 3 0, 1 1"), {{Kind: 9, N: least}}} {
		if w, whole, times, e := s.run(script); len(w.Names)+len(w.Wides)+len(w.First)+len(w.List)+len(times) > 0 || whole || e != want {
			t.Errorf("%v: %v, %v, %v, %d, not %d", s, brief(w), whole, times, e, want)
		}
	}
}

// Wa1, R2: what layer 15 refuses, and in its order.
func TestWa1Refused(t *testing.T) {
	stim := changes("3 0 1")
	right := simOf(wire, "0 1", stim, 9)
	right.does(t, right.enough(t), 10)
	for _, horizon := range []int{-1, least, api.MaxTime + 1, most} {
		s := right
		s.horizon = horizon
		s.refused(t, api.ErrArg)
	}
	for _, bad := range []string{"3 1 1", "3 2 1", "3 -1 1", "-1 0 1", "3 0 11", "3 0 2", "3 0 1, 3 0 1", "3 0 1, 2 0 1"} {
		s := right
		s.stim = changes(bad)
		s.refused(t, api.ErrArg)
	}
	for _, p := range []api.Parts{
		{}, {N: 1}, {Of: []int{0, 1}, N: 2}, {Of: []int{0}, N: 1, Ahead: [][]int{{0}}}, {Of: []int{0, 1}, N: 1, Ahead: [][]int{{0}}}, {Of: []int{0, 2}, N: 3, Ahead: [][]int{{0, 0, 2}, {0, 0, 0}, {0, 0, 0}}},
		{Of: []int{0, 1}, N: 2, Ahead: [][]int{{0, 1}, {0, 0}}}, {Of: []int{0, 1}, N: 2, Ahead: [][]int{{0, 3}, {0, 0}}}, {Of: []int{0, 1}, N: 2, Ahead: [][]int{{0, 2}, {2, 0}}}, {Of: []int{0, 1}, N: 2, Ahead: [][]int{{0, 2}}}, {Of: []int{0, 1}, N: 2, Ahead: [][]int{{1, 2}, {0, 0}}},
		{Of: []int{0, -1}, N: 1, Ahead: [][]int{{0}}}, {Of: []int{0, 1}, N: 0, Ahead: [][]int{{0, 2}, {0, 0}}}, {Of: []int{0, 1}, N: -1, Ahead: [][]int{{0, 2}, {0, 0}}}, {Of: []int{0, 1}, N: most}, {Of: []int{0, 1}, N: least}, {Of: []int{0, 1}, N: 65},
	} {
		s := right
		s.p = p
		s.refused(t, api.ErrArg)
	}
	simOf("in 1; not 1 0", "0 1", nil, 9).refused(t, api.ErrArg)
	sim{saved: 1}.refused(t, api.ErrArg)
	sim{p: api.Parts{N: 1, Ahead: [][]int{{0}}}, horizon: 9, saved: 1}.refused(t, api.ErrArg)
	s := right
	s.l.Ports = 3
	s.refused(t, api.ErrArg)
	for _, of := range []string{"0 0 0 0", "0 1 1 2", "0 1 0 2"} {
		loop := simOf("in 1; not 1 2; not 1 1; delay@1 1 1", of, stim, 9)
		loop.refused(t, api.ErrLoop)
		// Parts come behind a loop, a stimulus and a horizon ahead of it.
		loop.p.N = 0
		loop.refused(t, api.ErrLoop)
		loop.p = api.Parts{}
		loop.refused(t, api.ErrLoop)
		loop.with(0).refused(t, api.ErrLoop)
		loop.horizon = -1
		loop.refused(t, api.ErrArg)
		loop.horizon, loop.stim = 9, changes("3 1 1")
		loop.refused(t, api.ErrArg)
	}
}

// So many states are none that may be saved.
func TestWa1SavedWrong(t *testing.T) {
	s := simOf(wire, "0 1", changes("3 0 1"), 9)
	for _, saved := range []int{0, -1, -2, least, api.MaxQueue + 1, api.MaxQueue + 2, most, 1<<32 + 1, 1 << 32} {
		s.with(saved).refused(t, api.ErrArg)
	}
	for _, saved := range []int{2, 3, api.MaxQueue} {
		s.with(saved).does(t, s.enough(t), 10)
	}
	for _, of := range []string{"0 0 0 0", "0 1 1 2"} {
		for _, saved := range []int{0, -1, api.MaxQueue + 1} {
			simOf("in 1; not 1 2; not 1 1; delay@1 1 1", of, nil, 9).with(saved).refused(t, api.ErrLoop)
		}
	}
}

// What is refused is just what layer 15 refuses.
func TestWa1RefusedMadeUp(t *testing.T) {
	d := dice(20)
	count := map[api.Errno]int{}
	for range 4000 {
		s := d.sim(t, 3, 4, 4)
		switch at := d.roll(len(s.l.Nodes)); d.roll(8) {
		case 0:
			s.l.Nodes[at].Wide += d.roll(3) - 1
		case 1:
			if ins := s.l.Nodes[at].Ins; len(ins) > 0 {
				ins[d.roll(len(ins))] = d.roll(len(s.l.Nodes)+2) - 1
			}
		case 2:
			s.p.Of[at] = d.roll(s.p.N+2) - 1
		case 3:
			s.p.Ahead[d.roll(s.p.N)][d.roll(s.p.N)] += d.roll(3) - 1
		case 4:
			s.p.N += d.roll(3) - 1
		case 5:
			if len(s.stim) > 0 {
				s.stim[d.roll(len(s.stim))] = api.Change{Time: d.roll(6) - 1, Net: d.roll(6) - 1, Value: d.one("", "0", "1x", "y")}
			}
		case 6:
			s.horizon = -d.roll(3)
		}
		_, want := lp.New(s.l, s.p, 0, s.stim, s.horizon)
		count[want]++
		if want != api.OK {
			s.refused(t, want)
		} else {
			s.again(t, d.script(s, 10))
		}
		warp.Round(s.p)
	}
	if count[api.OK] < 1000 || count[api.ErrArg] < 700 || count[api.ErrLoop] < 10 {
		t.Error(count)
	}
}

func TestWa2RoundsWrong(t *testing.T) {
	for _, c := range [][2]int{{0, 9}, {-1, 9}, {least, 9}, {2, -1}, {2, least}, {2, 1<<20 + 1}, {2, most}, {2, api.MaxTime}, {0, -1}, {1, 1 << 32}} {
		if n, e := warp.Rounds(api.Parts{N: c[0]}, c[1]); n != 0 || e != api.ErrArg {
			t.Error(c, n, e)
		}
	}
	// How many parts there are is what N tells.
	p := api.Parts{Of: []int{0, 1}, Ahead: [][]int{{0, 2}, {0, 0}}}
	if n, e := warp.Rounds(p, 9); n != 0 || e != api.ErrArg {
		t.Error(n, e)
	}
}

// Round tells nothing, if N may not be.
func TestWa2RoundWrong(t *testing.T) {
	for _, n := range []int{0, -1, 65, 66, least, most, 1 << 32} {
		if got := warp.Round(api.Parts{Of: []int{0, 1}, N: n, Ahead: [][]int{{0, 2}, {1, 0}}}); len(got) > 0 {
			t.Error(n, got)
		}
	}
}

// roomy is a list with something strange behind its end.
func roomy[T any](list []T, more ...T) []T {
	return append(append([]T{}, list...), more...)[:len(list)]
}

// spoil writes to a list, and to the room behind its end.
func spoil[T any](list []T, with T) {
	for i := range list[:cap(list)] {
		list[:cap(list)][i] = with
	}
}

// R3: nothing that was handed in is changed, or read behind its end; nobody else has an answer's lists.
func TestR3Lists(t *testing.T) {
	d := dice(30)
	for range 300 {
		s := d.busy()
		script := append(d.script(s, 30*s.p.N), s.rounds(d.roll(9))...)
		r := sim{l: api.Netlist{Nodes: roomy(s.l.Nodes, api.Node{Kind: 99}), Nets: roomy(s.l.Nets, -4, 1), Ports: s.l.Ports}, stim: roomy(s.stim, api.Change{Time: 1, Value: "1"}), horizon: s.horizon, saved: s.saved}
		r.p = api.Parts{Of: roomy(s.p.Of, 5, -5), N: s.p.N, Ahead: roomy(s.p.Ahead, []int{3})}
		for i, list := range r.p.Ahead {
			r.p.Ahead[i] = roomy(list, 9)
		}
		long := roomy(script, picks("1 0, 3 0, 1 1, 3 1, 1 0, 1 1")...)
		before := r.String() + brief(long[:cap(long)])
		w, whole, times, e := r.run(long)
		if r.String()+brief(long[:cap(long)]) != before {
			t.Fatalf("%v: changed", r)
		}
		if v, all, list, f := s.run(script); !same(v, w) || all != whole || !slices.Equal(list, times) || f != e {
			t.Fatalf("%v: %v, %v, %v, %d and %v, %v, %v, %d", s, w, whole, times, e, v, all, list, f)
		}
		spoil(times, -7)
		spoil(w.Names, "?")
		spoil(w.First, "?")
		spoil(w.Wides, -9)
		spoil(w.List, api.Change{Time: -1, Value: "?"})
		round := warp.Round(r.p)
		spoil(round, api.Pick{Kind: 77})
		s.again(t, script)
		r.again(t, long)
		if r.String()+brief(long[:cap(long)]) != before {
			t.Fatalf("%v: changed", r)
		}
	}
}

// nil and the empty list are the same.
func TestR3Empty(t *testing.T) {
	l := api.Netlist{Nodes: []api.Node{{Kind: api.NdConst, Wide: 1, Value: "1", Ins: []int{}}, {Kind: api.NdDelay, Wide: 1, Ins: []int{0}, Time: 2}}, Nets: []int{}}
	m := l
	m.Nets = nil
	for _, n := range []api.Netlist{l, m} {
		for _, stim := range [][]api.Change{nil, {}} {
			s := sim{l: n, p: parts(n, "0 1"), stim: stim, horizon: 3, saved: 2}
			s.does(t, nil, 0)
			s.does(t, []api.Pick{}, 0)
			s.does(t, s.enough(t), 4)
		}
	}
}

// R4: once more the same is told, whatever was told in between.
func TestR4Again(t *testing.T) {
	d := dice(31)
	for range 100 {
		s, other := d.busy(), d.sim(t, 4, 6, 8)
		script := d.script(s, 40*s.p.N)
		w, whole, times, e := s.run(script)
		other.run(d.script(other, 40))
		if v, all, list, f := s.run(script); !same(v, w) || all != whole || !slices.Equal(list, times) || f != e {
			t.Fatalf("%v: %v, %v, %v, %d and %v, %v, %v, %d", s, w, whole, times, e, v, all, list, f)
		}
	}
}
