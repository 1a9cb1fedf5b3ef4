package conserv_test

import (
	"silkworm/api"
	"silkworm/conserv"
	"slices"
	"testing"
)

const (
	// wire is one delay, in two parts: 0 is that of the input, 1 that of the delay.
	wire = "in 1; delay@2 1 0"
	// ring is two parts that reach each other: 2 ahead, and 3 ahead back.
	ring = "in 1; delay@2 1 0; in 1; delay@3 1 2"
)

func TestCo1Example(t *testing.T) {
	l := lowered(t, "module m(input a, output y); assign #2 y = a; endmodule")
	s := sim{l: l, p: parted(t, l, 2), stim: changes("3 0 1, 4 0 0"), horizon: 9}
	n, e := conserv.Rounds(s.p, 9)
	if s.p.N != 2 || n != 24 || e != api.OK {
		t.Fatal(s.p, n, e)
	}
	w, whole, e := s.run(s.rounds(n))
	if !slices.Equal(w.Names, []string{"", ""}) || !slices.Equal(w.Wides, []int{1, 1}) || !slices.Equal(w.First, []string{"x", "x"}) || !slices.Equal(w.List, changes("3 0 1, 4 0 0, 5 1 1, 6 1 0")) || !whole || e != api.OK {
		t.Error(w, whole, e)
	}
}

// One goes ahead, the other one waits for its promises.
func TestCo1Wire(t *testing.T) {
	s := simOf(wire, "0 1", toggles(10, 0), 9)
	// It goes through 0 by itself; what comes of it are an event at 2 and the promise of 3.
	s.ends(t, "1 0 = 0, 1 1 = 0, 2 0 = 0, 1 1 = 0, 2 0 = 0, 1 1 = 1, 1 0 = 2, 1 0 = 2, 1 1 = 3, 1 1 = 3, 1 0 = 3, 2 0 = 3, 1 0 = 3, 2 0 = 3, 1 1 = 4, 1 0 = 4, 3 0 = 4, 1 1 = 5, 1 1 = 6")
	// The other one does nothing, as long as nothing comes.
	s.ends(t, "1 1 = 0, 1 1 = 0, 3 0 = 0, 2 0 = 0, 1 1 = 0, 1 0 = 0, 1 0 = 0, 1 0 = 0, 1 1 = 0, 1 1 = 0, 3 0 = 0, 1 1 = 2, 1 1 = 3, 1 1 = 3")
}

// All that goes on by itself goes to the end; all comes at once; the other one goes through what is safe.
func TestCo1AllAtOnce(t *testing.T) {
	s := simOf(wire, "0 1", toggles(10, 0), 9)
	script := slices.Repeat(picks("1 0"), 10)
	s.answers(t, script, 0, false, api.OK)
	script = append(script, picks("3 0")...)
	s.answers(t, script, 0, false, api.OK)
	for _, end := range []int{2, 3, 4, 5, 6, 7, 8, 9} {
		script = append(script, picks("1 1")...)
		s.answers(t, script, end, false, api.OK)
	}
	script = append(script, picks("1 1")...)
	s.answers(t, script, 10, true, api.OK)
	// More of whatever kind changes nothing any more.
	script = append(script, picks("1 0, 1 1, 2 0, 3 0, 1 1, 1 0, 2 0, 3 0, 1 0, 1 1")...)
	s.answers(t, script, 10, true, api.OK)
}

// Both wait for each other: a promise is sent only if it is more than the one ahead.
func TestCo1Ring(t *testing.T) {
	s := simOf(ring, "0 1 1 0", toggles(10, 0, 2), 9)
	s.ends(t, "1 0 = 0, 1 0 = 0, 1 0 = 0, 1 1 = 0, 1 1 = 0, 3 1 = 0, 1 0 = 0, "+
		// On the first channel are now the promise 2, an event at 2, the promise 3.
		"2 0 = 0, 1 1 = 1, 1 1 = 1, 1 1 = 1, 2 0 = 1, 1 1 = 1, 2 0 = 1, 1 1 = 1, 1 0 = 2, "+
		// On the second one: an event at 3, 4, an event at 4, 5, an event at 5, 6.
		"2 1 = 2, 1 0 = 3, 1 0 = 3, 2 1 = 3, 1 0 = 3, 3 0 = 3, 1 1 = 4, 1 1 = 4, 2 1 = 4, 1 0 = 4, 2 1 = 4, 1 0 = 5")
}

// What is told ahead of the first promise hangs on nothing: x comes of an unknown input.
func TestCo1Beginning(t *testing.T) {
	s := simOf("const 1; delay@1 1 0; in 2; const x0z; not 1 0 | 4 1 2 3 0 1", "0 1 2 0 0", changes("1 2 01"), 3)
	for _, script := range []string{"", "1 0", "1 2", "2 0, 3 0", "1 0, 2 0, 1 2"} {
		w, whole, e := s.run(picks(script))
		if !slices.Equal(w.First, []string{"0", "x", "xx", "x0z", "1", "x"}) || !slices.Equal(w.Wides, []int{1, 1, 2, 3, 1, 1}) || !slices.Equal(w.Names, make([]string, 6)) || len(w.List) > 0 || whole || e != api.OK {
			t.Error(script, w, whole, e)
		}
	}
	s.ends(t, "1 0 = 0, 1 2 = 0, 3 0 = 0, 1 1 = 1, 1 2 = 1, 1 1 = 4, 1 0 = 4")
	w, whole, e := s.run(s.enough(t))
	if !slices.Equal(w.List, changes("1 1 1, 1 2 01, 1 5 1")) || !whole || e != api.OK {
		t.Error(w, whole, e)
	}
}

// One process: there is no channel, and it is whole once it has gone through all of its times.
func TestCo1One(t *testing.T) {
	s := simOf(wire, "0 0", changes("0 0 1, 4 0 0, 9 0 1, 10 0 0"), 9)
	s.ends(t, "1 0 = 2, 3 0 = 2, 2 0 = 2, 1 1 = 4, 1 -7 = 6, 1 0 = 9, 2 5 = 9, 1 8 = 10, 1 0 = 10")
	s = simOf("const 1", "0", nil, 0)
	s.ends(t, "2 0 = 0, 3 -1 = 0, 0 0 = 0, 1 0 = 1")
	s.answers(t, s.enough(t), 1, true, api.OK)
}

// Parts that nothing is between have no channels: each goes on by itself.
func TestCo1Apart(t *testing.T) {
	s := simOf("in 1; not 1 0; in 1; not 1 2", "0 0 1 1", toggles(3, 0, 2), 2)
	s.ends(t, "1 0 = 0, 1 0 = 0, 2 0 = 0, 3 0 = 0, 1 1 = 1, 1 1 = 2, 1 1 = 2, 1 0 = 3")
}

// A clock is the least of the channels' promises, also of those by which none came.
func TestCo1Least(t *testing.T) {
	s := simOf("in 1; delay@1 1 0; in 1; delay@4 1 2; in 1", "0 2 1 2 2", toggles(8, 0, 2, 4), 7)
	// The channel 0 is from 0, the channel 1 from 1.
	s.ends(t, "1 0 = 0, 3 0 = 0, 1 2 = 0, 1 1 = 0, 1 2 = 0, 3 1 = 0, 1 2 = 1, 1 2 = 1, 1 2 = 1, 1 0 = 1, 1 1 = 2, 1 2 = 2, 1 0 = 2, 3 0 = 2, 1 1 = 2, 1 2 = 3, 1 2 = 3, 1 1 = 3, 3 1 = 3, 1 2 = 3")
	// If just one of them tells something, it stays at 0.
	s.answers(t, slices.Concat(slices.Repeat(picks("1 0"), 9), slices.Repeat(picks("1 1"), 9), slices.Repeat(picks("3 0"), 9), slices.Repeat(picks("1 2"), 9)), 0, false, api.OK)
	s.answers(t, slices.Concat(slices.Repeat(picks("1 0"), 9), slices.Repeat(picks("1 1"), 9), slices.Repeat(picks("3 1"), 9), slices.Repeat(picks("1 2"), 9)), 0, false, api.OK)
}

// A promise is at most the horizon and 1: by that one it is whole, whatever else is under way.
func TestCo1PromiseEnds(t *testing.T) {
	s := simOf("in 1; delay@9 1 0", "0 1", toggles(5, 0), 4)
	// An event at 9, the promise 5, and four events.
	s.ends(t, "1 0 = 0, 1 0 = 0, 1 0 = 0, 2 0 = 0, 1 1 = 0, 2 0 = 0, 1 1 = 3, 1 0 = 4, 1 0 = 5, 3 0 = 5")
	// Back and forth: 4 is promised, then 5, which is all.
	s = simOf("in 1; delay@4 1 0; delay@4 1 1; in 1 | 0 3", "0 1 0 1", toggles(5, 0, 1), 4)
	s.ends(t, "1 0 = 0, 1 1 = 0, 3 0 = 0, 3 1 = 0, 1 0 = 0, 1 0 = 0, 1 1 = 1, 1 1 = 2, 1 1 = 2, 1 1 = 2, 1 1 = 2, 2 0 = 2, 1 1 = 2, 2 0 = 2, 1 1 = 2, 2 1 = 2, 1 0 = 3, 1 0 = 4, 1 0 = 5, 1 1 = 5, 2 0 = 5, 1 1 = 5")
}

// Channels are numbered by where they are from, then by where they are to.
func TestCo1Numbers(t *testing.T) {
	nodes := "in 1; in 1; in 1; delay@1 1 0; delay@1 1 0; delay@1 1 1; delay@1 1 2; delay@1 1 2"
	s := simOf(nodes, "0 1 2 1 2 0 0 1", toggles(3, 0, 1, 2), 2)
	// 0: 0 to 1, 1: 0 to 2, 2: 1 to 0, 3: 2 to 0, 4: 2 to 1.
	if got := conserv.Round(s.p); !slices.Equal(got, picks("1 0, 1 1, 1 2, 3 0, 3 1, 3 2, 3 3, 3 4")) {
		t.Fatal(got)
	}
	all := "1 0, 1 1, 1 2, "
	for _, c := range []struct {
		script string
		end    int
	}{
		{"3 0, 3 1, 3 2, 3 3, 3 4", 1}, {"3 1, 3 2, 3 3, 3 4", 0}, {"3 0, 3 2, 3 3, 3 4", 0}, {"3 0, 3 1, 3 3, 3 4", 0}, {"3 0, 3 1, 3 2, 3 4", 0}, {"3 0, 3 1, 3 2, 3 3", 0},
		{"3 5, 3 11, 3 17, 3 23, 3 29", 1}, {"2 10, 2 6, 2 2, 2 8, 2 4", 1},
		// 2^64 - 1 modulo 5 is 0.
		{"2 -1, 2 -5, 2 -4, 2 -3, 2 -2", 1}, {"2 -5, 2 -4, 2 -3, 2 -2", 0}, {"2 0, 2 -5, 2 -4, 2 -3, 2 -2", 1}, {"2 -1, 2 0, 2 -5, 2 -4, 2 -3", 0},
	} {
		s.answers(t, picks(all+c.script+", 1 0, 1 1, 1 2"), c.end, false, api.OK)
	}
	// Only one that has both of its channels' promises has gone through 0: the other ones' do not matter to it.
	w, _, _ := simOf(nodes, "0 1 2 1 2 0 0 1", nil, 2).run(picks(all + "3 2, 3 3, 1 0"))
	if len(w.List) > 0 {
		t.Error(w)
	}
}

// N modulo how many there are, as a number without sign of 64 bits.
func TestCo1Modulo(t *testing.T) {
	nodes, of := "in 1; not 1 0; in 1; in 1", "0 0 1 2"
	for n, k := range map[int]int{0: 0, 1: 1, 2: 2, 3: 0, 302: 2, -1: 0, -2: 2, -3: 1, -4: 0, most: 1, most - 1: 0, least: 2, least + 1: 0, 1 << 32: 1, -1 << 32: 0} {
		s := simOf(nodes, of, nil, 1)
		script := []api.Pick{{Kind: 1, N: n}}
		for other := range 3 {
			if other != k {
				script = append(script, api.Pick{Kind: 1, N: other})
			}
		}
		s.answers(t, script, 2, true, api.OK)
		s.answers(t, script[:2], 0, false, api.OK)
		s.answers(t, append(script[1:2:2], api.Pick{Kind: 1, N: k}), 0, false, api.OK)
	}
	// Four channels: a number below 0 stands where its last bits say.
	four := "in 1; delay@1 1 0; delay@1 1 0; delay@1 1 0; delay@1 1 0"
	for n, k := range map[int]int{-1: 3, -2: 2, -3: 1, -4: 0, -5: 3, least: 0, least + 3: 3, most: 3, 6: 2} {
		for kind := 2; kind <= 3; kind++ {
			s := simOf(four, "0 1 2 3 4", nil, 0)
			script := picks("1 0, 1 0")
			for other := range 4 {
				if other != k {
					script = append(script, api.Pick{Kind: kind, N: other})
				}
			}
			tail := picks("1 1, 1 2, 1 3, 1 4")
			s.answers(t, slices.Concat(script, tail), 0, false, api.OK)
			s.answers(t, slices.Concat(script, []api.Pick{{Kind: kind, N: n}}, tail), 1, true, api.OK)
		}
	}
}

// Other kinds do nothing.
func TestCo1OtherKinds(t *testing.T) {
	s := simOf(wire, "0 1", toggles(10, 0), 9)
	script := picks("1 0, 3 0, 1 1, 1 0, 1 0, 2 0, 2 0")
	for _, kind := range []int{0, 4, -1, 5, 257, 1 << 32, 1<<32 + 1, least, most, -3} {
		for _, n := range []int{0, 1, -1, most, least} {
			var mixed []api.Pick
			for _, p := range script {
				mixed = append(mixed, api.Pick{Kind: kind, N: n}, p)
			}
			s.answers(t, append(mixed, api.Pick{Kind: kind, N: n}), 2, false, api.OK)
			s.answers(t, append(mixed, api.Pick{Kind: kind, N: n}, api.Pick{Kind: 1, N: 1}), 3, false, api.OK)
		}
	}
	s.answers(t, []api.Pick{{}, {Kind: 4}}, 0, false, api.OK)
}

// Several events of a time come by one channel, ahead of the promise behind them.
func TestCo1ManyEvents(t *testing.T) {
	s := simOf("in 1; delay@1 1 0; delay@1 1 0; delay@2 1 0; not 1 2", "0 1 1 1 1", toggles(4, 0), 6)
	s.ends(t, "1 0 = 0, 2 0 = 0, 2 0 = 0, 2 0 = 0, 1 1 = 0, 2 0 = 0, 1 1 = 1, 1 1 = 1, 1 0 = 2, 1 1 = 2, 3 0 = 2, 1 1 = 2, 1 0 = 3, 1 0 = 3, 3 0 = 3, 1 1 = 4, 1 1 = 5, 1 1 = 7")
}

// Co1: the horizon counts, what is behind it does not.
func TestCo1Horizon(t *testing.T) {
	for horizon := range 8 {
		s := simOf(ring, "0 1 1 0", toggles(6, 0, 2), horizon)
		s.answers(t, s.enough(t), horizon+1, true, api.OK)
		s = simOf(wire, "0 1", toggles(6, 0), horizon)
		s.answers(t, s.enough(t), horizon+1, true, api.OK)
	}
}

func TestCo2Rounds(t *testing.T) {
	for horizon, want := range map[int]int{0: 6, 1: 8, 9: 24, 200: 406, 1<<20 - 1: 1<<21 + 4, 1 << 20: 1<<21 + 6} {
		for _, n := range []int{1, 2, 64, 65, 1 << 40, most} {
			if got, e := conserv.Rounds(api.Parts{N: n}, horizon); got != want || e != api.OK {
				t.Error(n, horizon, got, e)
			}
		}
	}
	p := api.Parts{Of: []int{9}, N: 2, Ahead: [][]int{{-1}}}
	if got, e := conserv.Rounds(p, 3); got != 12 || e != api.OK {
		t.Error(got, e)
	}
}

func TestCo2Round(t *testing.T) {
	for _, c := range []struct {
		p    api.Parts
		want string
	}{
		{api.Parts{N: 1, Ahead: [][]int{{0}}}, "1 0"},
		{api.Parts{N: 2, Ahead: [][]int{{0, 2}, {0, 0}}}, "1 0, 1 1, 3 0"},
		{api.Parts{N: 2, Ahead: [][]int{{0, 0}, {1, 0}}}, "1 0, 1 1, 3 0"},
		{api.Parts{N: 2, Ahead: [][]int{{0, 2}, {5, 0}}}, "1 0, 1 1, 3 0, 3 1"},
		{api.Parts{N: 3, Ahead: [][]int{{0, 0, 0}, {0, 0, 0}, {0, 0, 0}}}, "1 0, 1 1, 1 2"},
		{api.Parts{N: 3, Ahead: [][]int{{0, 1, 1}, {1 << 20, 0, 1}, {3, 1, 0}}}, "1 0, 1 1, 1 2, 3 0, 3 1, 3 2, 3 3, 3 4, 3 5"},
	} {
		if got := conserv.Round(c.p); !slices.Equal(got, picks(c.want)) {
			t.Error(c.p, got)
		}
	}
	// As many as there may be.
	p := api.Parts{N: api.MaxParts, Ahead: slices.Repeat([][]int{slices.Repeat([]int{1}, api.MaxParts)}, api.MaxParts)}
	for i := range p.Ahead {
		p.Ahead[i] = slices.Clone(p.Ahead[i])
		p.Ahead[i][i] = 0
	}
	got := conserv.Round(p)
	if len(got) != 64+64*63 || got[63] != (api.Pick{Kind: 1, N: 63}) || got[64] != (api.Pick{Kind: 3}) || got[len(got)-1] != (api.Pick{Kind: 3, N: 64*63 - 1}) {
		t.Error(len(got), brief(got))
	}
}
