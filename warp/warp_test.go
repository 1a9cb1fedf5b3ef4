package warp_test

import (
	"silkworm/api"
	"silkworm/warp"
	"slices"
	"testing"
)

const (
	// wire is one delay, in two parts: 0 is that of the input, 1 that of the delay.
	wire = "in 1; delay@2 1 0"
	// ring is two parts that reach each other: 2 ahead, and 3 ahead back.
	ring = "in 1; delay@2 1 0; in 1; delay@3 1 2"
	// chain is three parts: what comes from 0 to 1, 2 later, lets other things come from 1 to 2, 3 later.
	chain   = "in 1; delay@2 1 0; in 1; and 1 1 2; delay@3 1 3"
	chainOf = "0 1 1 1 2"
)

func TestWa1Example(t *testing.T) {
	l := lowered(t, "module m(input a, output y); assign #2 y = a; endmodule")
	s := sim{l: l, p: parted(t, l, 2), stim: changes("3 0 1, 4 0 0"), horizon: 9, saved: 99}
	n, e := warp.Rounds(s.p, 9)
	if s.p.N != 2 || n != 11 || e != api.OK {
		t.Fatal(s.p, n, e)
	}
	w, whole, times, e := s.run(s.rounds(n))
	if !slices.Equal(w.Names, []string{"", ""}) || !slices.Equal(w.Wides, []int{1, 1}) || !slices.Equal(w.First, []string{"x", "x"}) || !slices.Equal(w.List, changes("3 0 1, 4 0 0, 5 1 1, 6 1 0")) || !whole || e != api.OK {
		t.Error(w, whole, e)
	}
	if !slices.Equal(times[:12], []int{0, 3, 3, 4, 4, 4, 5, 6, 6, 6, 10, 10}) || len(times) != 33 || times[32] != 10 {
		t.Error(times)
	}
}

// gone is a chain of which the process 1 goes ahead to 7, and is told something at 5.
func gone() sim {
	return simOf(chain, chainOf, changes("0 2 0, 3 0 1, 7 2 1"), 20)
}

// The chapter's example: it goes back, and what it sent at 7 is taken back.
func TestWa1GoesBack(t *testing.T) {
	gone().ends(t, "1 1 = 0, 1 1 = 0, 1 1 = 0, 1 2 = 0, 1 0 = 3, 1 0 = 3, "+
		// Under way are now those at 3 and at 10 to the process 2, and that at 5. The process 2 goes ahead by that at 10.
		"2 1 = 3, 1 2 = 3, "+
		// That at 5 comes: the process 1 goes back, by which something Anti is under way; by that the process 2 goes back.
		"2 1 = 3, 2 1 = 3, 1 2 = 3, 2 0 = 3, 2 0 = 3, 1 2 = 5, 1 2 = 5, 1 1 = 7, 1 2 = 7, 1 1 = 10, 1 1 = 10, 2 0 = 10, 1 2 = 21, 1 2 = 21")
	w, _, _, _ := gone().run(gone().enough(t))
	if !slices.Equal(w.List, changes("0 2 0, 0 3 0, 3 0 1, 3 4 0, 5 1 1, 7 2 1, 7 3 1, 10 4 1")) {
		t.Error(w.List)
	}
}

// Of two that are sent by one process for the same, one being taken back, all orders in which they come and are gone through tell the same: they are told apart, and Anti may come first.
func TestWa1Orders(t *testing.T) {
	begin := picks("1 1, 1 1, 1 2, 1 0, 1 0, 2 2, 1 1, 1 1, 2 0, 1 2")
	s := gone()
	m := s.again(t, begin)
	if len(m.under) != 3 || m.under[0].Anti || !m.under[1].Anti || m.under[2].Anti || m.under[0].Time != 10 || m.under[1].Time != 10 || m.under[2].Time != 10 || m.under[0].Value != "x" || m.under[2].Value != "1" {
		t.Fatal(m.under)
	}
	for _, order := range []string{"2 0, 2 0, 2 0", "2 0, 2 1, 2 0", "2 1, 2 0, 2 0", "2 1, 2 1, 2 0", "2 2, 2 0, 2 0", "2 2, 2 1, 2 0"} {
		for ahead := range 8 {
			script := slices.Clone(begin)
			for i, p := range picks(order) {
				script = append(script, p)
				if ahead>>i&1 > 0 {
					script = append(script, picks("1 2")...)
				}
			}
			s.again(t, script)
			s.does(t, append(script, picks("1 2")...), 21)
		}
	}
}

// Kind 3: also what is sent by that comes.
func TestWa1All(t *testing.T) {
	s := gone()
	s.ends(t, "1 1 = 0, 1 1 = 0, 1 2 = 0, 1 0 = 3, 1 0 = 3, 2 1 = 3, 1 2 = 3, "+
		// Something Anti is sent by it, which comes, too: the process 2 goes back to 3, and behind that there is nothing.
		"3 0 = 3, 2 0 = 3, 1 2 = 5, 1 2 = 5, 1 1 = 7, 1 1 = 10, "+
		"2 0 = 10, 1 2 = 21")
	// N does not matter to it.
	for _, n := range []int{0, 1, 7, -1, least, most} {
		script := append(picks("1 1, 1 1, 1 2, 1 0, 1 0"), api.Pick{Kind: 3, N: n}, api.Pick{Kind: 1, N: 2}, api.Pick{Kind: 1, N: 2})
		s.does(t, script, 5)
		s.again(t, script)
	}
}

// One goes ahead by itself; the other one by what came, in whatever order.
func TestWa1Wire(t *testing.T) {
	s := simOf(wire, "0 1", toggles(10, 0), 9)
	s.ends(t, "1 0 = 0, 1 1 = 1, 1 0 = 2, 1 0 = 2, 2 1 = 2, 1 1 = 2, "+
		// It went through 3, and goes back: that at 3 counts again.
		"2 0 = 2, 1 1 = 3, 1 1 = 3, 1 0 = 4, 2 0 = 4, 1 1 = 4, 1 1 = 4, 1 0 = 5")
	// The last one first, again and again.
	var back []api.Pick
	for n := range 10 {
		back = append(back, api.Pick{Kind: 2, N: 9 - n}, api.Pick{Kind: 1, N: 1})
	}
	script := slices.Concat(picks("1 1"), slices.Repeat(picks("1 0"), 10))
	s.does(t, script, 2)
	s.does(t, slices.Concat(script, back[:18]), 2)
	s.does(t, slices.Concat(script, back), 3)
	for n := range 8 {
		s.does(t, slices.Concat(script, back, slices.Repeat(picks("1 1"), n)), []int{3, 4, 5, 6, 7, 8, 9, 10}[n])
	}
}

// What the processes of a ring send is taken back by one another.
func TestWa1Ring(t *testing.T) {
	s := simOf("in 1; delay@2 1 0; and 1 1 4; delay@3 1 2; in 1; and 1 0 3; delay@1 1 5", "0 1 1 0 1 0 1", changes("0 0 1, 0 4 1, 4 0 0, 4 4 0, 6 0 1, 6 4 1, 9 0 x"), 15)
	s.again(t, picks("1 0, 1 0, 1 0, 1 1, 1 1, 1 1, 2 3, 1 0, 1 1, 2 2, 2 0, 1 1, 1 0, 2 4, 1 1, 1 0, 2 3, 1 0, 1 1, 2 5, 2 5, 1 1"))
	s.does(t, s.enough(t), 16)
	s = simOf(ring, "0 1 1 0", toggles(10, 0, 2), 9)
	s.ends(t, "1 0 = 0, 1 0 = 0, 1 1 = 1, 1 1 = 2, 1 1 = 2, "+
		// Under way are those at 2 and 3, then, to the other one, those at 3, 4 and 5.
		"2 2 = 2, 1 0 = 2, 1 0 = 2, 2 0 = 2, 1 1 = 3, 1 1 = 3, 2 0 = 3, 1 1 = 4, 3 0 = 4")
}

// The GVT is the least next time, or time of a message, Anti or not.
func TestWa1Gvt(t *testing.T) {
	s := simOf("in 1; delay@3 1 0; delay@1 1 0; in 1", "0 1 2 3", changes("0 0 1, 5 0 0, 7 3 1"), 11)
	s.ends(t, "1 0 = 0, 1 1 = 0, 1 2 = 0, 1 3 = 1, 2 0 = 1, 1 1 = 1, 2 0 = 1, 1 2 = 5, 1 3 = 5, 1 0 = 6, 2 1 = 6, 1 2 = 8, 2 0 = 8, 1 1 = 12")
	// Something Anti alone: what it takes back came ahead of it.
	m := newModel(t, gone())
	m.all(picks("1 1, 1 1, 1 2, 1 0, 1 0, 2 0, 1 2, 2 0, 1 2, 2 0, 1 1, 1 1"))
	if len(m.under) != 2 || !m.under[0].Anti || m.under[1].Anti || m.gvt() != 10 {
		t.Fatal(m.under, m.gvt())
	}
	m.all(picks("2 1, 1 2"))
	if len(m.under) != 1 || !m.under[0].Anti || m.gvt() != 10 {
		t.Fatal(m.under, m.gvt())
	}
	m.again(t, m.did)
	m.does(t, m.did, 10)
	m.does(t, append(m.did, picks("2 0")...), 10)
	m.does(t, append(m.did, picks("2 0, 1 2")...), 21)
}

// What is told ahead of the first pick hangs on nothing.
func TestWa1Beginning(t *testing.T) {
	s := simOf("const 1; delay@1 1 0; in 2; const x0z; not 1 0 | 4 1 2 3 0 1", "0 1 2 0 0", changes("1 2 01"), 3)
	for _, script := range []string{"", "1 0", "1 2", "2 0, 3 0", "1 0, 2 0, 1 2"} {
		w, whole, times, e := s.run(picks(script))
		if !slices.Equal(w.First, []string{"0", "x", "xx", "x0z", "1", "x"}) || !slices.Equal(w.Wides, []int{1, 1, 2, 3, 1, 1}) || !slices.Equal(w.Names, make([]string, 6)) || len(w.List) > 0 || whole || len(times) != len(picks(script)) || slices.Max(append(times, 0)) != 0 || e != api.OK {
			t.Error(script, w, whole, times, e)
		}
	}
	s.ends(t, "1 0 = 0, 1 2 = 0, 1 1 = 1, 1 1 = 1, 3 0 = 1, 1 1 = 1, 1 2 = 4, 1 0 = 4")
	w, whole, _, e := s.run(s.enough(t))
	if !slices.Equal(w.List, changes("1 1 1, 1 2 01, 1 5 1")) || !whole || e != api.OK {
		t.Error(w, whole, e)
	}
}

// One process: nothing is ever under way, and one state is enough.
func TestWa1One(t *testing.T) {
	s := simOf(wire, "0 0", changes("0 0 1, 4 0 0, 9 0 1, 10 0 0"), 9)
	for _, saved := range []int{1, 2, api.MaxQueue} {
		s.with(saved).ends(t, "1 0 = 2, 3 0 = 2, 2 0 = 2, 1 1 = 4, 1 -7 = 6, 1 0 = 9, 2 5 = 9, 1 8 = 10, 1 0 = 10")
	}
	s = simOf("const 1", "0", nil, 0)
	s.ends(t, "2 0 = 0, 3 -1 = 0, 0 0 = 0, 1 0 = 1")
	s.does(t, s.enough(t), 1)
}

// Parts that nothing is between.
func TestWa1Apart(t *testing.T) {
	s := simOf("in 1; not 1 0; in 1; not 1 2", "0 0 1 1", toggles(3, 0, 2), 2)
	s.ends(t, "1 0 = 0, 1 0 = 0, 2 0 = 0, 3 0 = 0, 1 1 = 1, 1 1 = 2, 1 1 = 2, 1 0 = 3")
}

// N modulo how many there are, as a number without sign of 64 bits.
func TestWa1Modulo(t *testing.T) {
	nodes, of := "in 1; not 1 0; in 1; in 1", "0 0 1 2"
	for n, k := range map[int]int{0: 0, 1: 1, 2: 2, 3: 0, 302: 2, -1: 0, -2: 2, -3: 1, -4: 0, most: 1, most - 1: 0, least: 2, least + 1: 0, 1 << 32: 1, -1 << 32: 0} {
		s := simOf(nodes, of, nil, 1)
		script := []api.Pick{{Kind: 1, N: n}}
		for other := range 3 {
			if other != k {
				script = append(script, api.Pick{Kind: 1, N: other})
			}
		}
		s.does(t, script, 2)
		s.does(t, script[:2], 0)
		s.does(t, append(script[1:2:2], api.Pick{Kind: 1, N: k}), 0)
	}
	// Four messages, each to another process: all but that one come once it has gone ahead.
	four := "in 1; delay@1 1 0; delay@2 1 0; delay@3 1 0; delay@4 1 0"
	for n, k := range map[int]int{0: 0, 1: 1, 2: 2, 3: 3, 4: 0, -1: 3, -2: 2, -3: 1, -4: 0, -5: 3, least: 0, least + 3: 3, most: 3, 6: 2} {
		s := simOf(four, "0 1 2 3 4", changes("0 0 1"), 4)
		script := append(picks("1 0, 1 1, 1 2, 1 3, 1 4"), api.Pick{Kind: 2, N: n}, api.Pick{Kind: 1, N: k + 1}, api.Pick{Kind: 3})
		for other := 1; other <= 4; other++ {
			if other != k+1 {
				script = append(script, api.Pick{Kind: 1, N: other})
			}
		}
		s.does(t, script, 5)
	}
	// Three: 2^64 - 1 modulo 3 is 0.
	for n, k := range map[int]int{0: 0, 1: 1, 2: 2, 3: 0, -1: 0, -2: 2, -3: 1, least: 2, most: 1} {
		s := simOf("in 1; delay@1 1 0; delay@2 1 0; delay@3 1 0", "0 1 2 3", changes("0 0 1"), 4)
		script := append(picks("1 0, 1 1, 1 2, 1 3"), api.Pick{Kind: 2, N: n}, api.Pick{Kind: 1, N: k + 1}, api.Pick{Kind: 3})
		for other := 1; other <= 3; other++ {
			if other != k+1 {
				script = append(script, api.Pick{Kind: 1, N: other})
			}
		}
		s.does(t, script, 5)
	}
}

// Messages stand in the order in which they were sent, whoever sends them and whomever they are for.
func TestWa1Order(t *testing.T) {
	s := simOf("in 1; in 1; delay@1 1 0; delay@5 1 1; delay@3 1 1; delay@7 1 0", "0 1 2 2 2 2", changes("0 0 1, 0 1 1"), 9)
	// The process 1 sends those at 5 and at 3, then 0 those at 1 and at 7.
	s.ends(t, "1 1 = 0, 1 0 = 0, 1 2 = 1, 2 2 = 1, 1 2 = 3, 2 1 = 3, 1 2 = 5, 2 0 = 5, 1 2 = 7, 2 0 = 7, 1 2 = 10")
	// Those at 1 and at 7, then those at 5 and at 3.
	s.ends(t, "1 0 = 0, 1 1 = 0, 1 2 = 1, 2 0 = 1, 1 2 = 3, 2 2 = 3, 1 2 = 5, 2 1 = 5, 1 2 = 7, 2 0 = 7, 1 2 = 10")
	s.ends(t, "1 2 = 0, 1 0 = 0, 1 1 = 1, 1 1 = 1, 2 3 = 1, 1 2 = 1, 2 0 = 1, 1 2 = 3, 1 2 = 5, 2 1 = 5, 1 2 = 7, 2 0 = 7, 1 2 = 10")
}

// Other kinds do nothing.
func TestWa1OtherKinds(t *testing.T) {
	s := simOf(wire, "0 1", toggles(10, 0), 9)
	script := picks("1 0, 3 0, 1 1, 1 0, 1 0, 2 0, 2 0")
	for _, kind := range []int{0, 4, -1, 5, 257, 1 << 32, 1<<32 + 1, least, most, -3} {
		for _, n := range []int{0, 1, -1, most, least} {
			var mixed []api.Pick
			for _, p := range script {
				mixed = append(mixed, api.Pick{Kind: kind, N: n}, p)
			}
			s.does(t, append(mixed, api.Pick{Kind: kind, N: n}), 2)
			s.does(t, append(mixed, api.Pick{Kind: kind, N: n}, api.Pick{Kind: 1, N: 1}), 3)
		}
	}
	s.does(t, []api.Pick{{}, {Kind: 4}}, 0)
}

// What is sent behind the horizon is under way as all else is, and comes; but the GVT is at most the horizon and 1.
func TestWa1BehindHorizon(t *testing.T) {
	s := simOf("in 1; delay@9 1 0", "0 1", toggles(5, 0), 4)
	s.ends(t, "1 0 = 0, 1 1 = 1, 1 0 = 2, 1 0 = 3, 1 0 = 4, 1 0 = 5, 2 0 = 5, 3 0 = 5, 1 1 = 5")
	s = simOf("in 1; delay@9 1 0; delay@1 1 0", "0 1 1", changes("0 0 1"), 4)
	s.ends(t, "1 0 = 0, 1 1 = 1, 2 0 = 1, 1 1 = 1, 2 0 = 1, 1 1 = 5")
	s.ends(t, "1 0 = 0, 1 1 = 1, 2 1 = 1, 1 1 = 5, 2 0 = 5, 1 1 = 5")
	// Also if it is taken back.
	s = simOf("in 1; delay@2 1 0; in 1; and 1 1 2; delay@9 1 3; in 1", chainOf+" 2", changes("0 2 0, 3 0 1, 6 5 0, 7 2 1"), 8)
	s.again(t, picks("1 1, 1 1, 1 2, 1 0, 1 0, 2 1, 2 1, 2 0, 1 1, 1 1, 1 2"))
	s.again(t, picks("1 1, 1 1, 1 2, 1 0, 1 0, 3 0, 1 1, 1 1, 1 2, 1 2"))
	s.does(t, s.enough(t), 9)
}

// Wa1: the horizon counts, what is behind it does not.
func TestWa1Horizon(t *testing.T) {
	for horizon := range 8 {
		s := simOf(ring, "0 1 1 0", toggles(6, 0, 2), horizon)
		s.does(t, s.enough(t), horizon+1)
		s = simOf(wire, "0 1", toggles(6, 0), horizon)
		s.does(t, s.enough(t), horizon+1)
	}
}

func TestWa2Rounds(t *testing.T) {
	for horizon, want := range map[int]int{0: 2, 1: 3, 9: 11, 200: 202, 1<<20 - 1: 1<<20 + 1, 1 << 20: 1<<20 + 2} {
		for _, n := range []int{1, 2, 64, 65, 1 << 40, most} {
			if got, e := warp.Rounds(api.Parts{N: n}, horizon); got != want || e != api.OK {
				t.Error(n, horizon, got, e)
			}
		}
	}
	p := api.Parts{Of: []int{9}, N: 2, Ahead: [][]int{{-1}}}
	if got, e := warp.Rounds(p, 3); got != 5 || e != api.OK {
		t.Error(got, e)
	}
}

func TestWa2Round(t *testing.T) {
	for _, c := range []struct {
		p    api.Parts
		want string
	}{
		{api.Parts{N: 1, Ahead: [][]int{{0}}}, "1 0, 3 0"},
		{api.Parts{N: 2, Ahead: [][]int{{0, 2}, {0, 0}}}, "1 0, 1 1, 3 0"},
		{api.Parts{N: 2, Ahead: [][]int{{0, 2}, {5, 0}}}, "1 0, 1 1, 3 0"},
		{api.Parts{N: 3, Ahead: [][]int{{0, 0, 0}, {0, 0, 0}, {0, 0, 0}}}, "1 0, 1 1, 1 2, 3 0"},
		// What else there is does not matter.
		{api.Parts{N: 3}, "1 0, 1 1, 1 2, 3 0"},
		{api.Parts{Of: []int{7}, N: 1, Ahead: [][]int{{-1, 4}, nil}}, "1 0, 3 0"},
	} {
		if got := warp.Round(c.p); !slices.Equal(got, picks(c.want)) {
			t.Error(c.p, got)
		}
	}
	// As many as there may be.
	got := warp.Round(api.Parts{N: api.MaxParts})
	if len(got) != 65 || got[0] != (api.Pick{Kind: 1}) || got[63] != (api.Pick{Kind: 1, N: 63}) || got[64] != (api.Pick{Kind: 3}) {
		t.Error(got)
	}
}
