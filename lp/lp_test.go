package lp_test

import (
	"silkworm/api"
	"silkworm/lp"
	"slices"
	"testing"
)

// one delay, two parts: 0 is that of the input, 1 that of the delay.
const wire = "in 1; delay@2 1 0"

func TestLp1Example(t *testing.T) {
	l := lowered(t, "module m(input a, output y); assign #2 y = a; endmodule")
	p := parted(t, l, 2)
	from, to, y := p.Of[l.Nets[0]], p.Of[l.Nets[1]], l.Nets[1]
	if p.N != 2 || from == to {
		t.Fatal(p)
	}
	// a is known at 0.
	a := process(t, l, p, from, changes("0 0 1"), 9)
	steps(t, a, 0, ev(2, y, "1", from, 1))
	rests(t, a)
	// It is not.
	a = process(t, l, p, from, changes("0 0 x, 5 0 0"), 9)
	b := process(t, l, p, to, changes("0 0 x, 5 0 0"), 9)
	steps(t, a, 0)
	steps(t, a, 5, ev(7, y, "0", from, 1))
	rests(t, a)
	steps(t, b, 0)
	takes(t, b, ev(7, y, "0", from, 1), api.OK)
	steps(t, b, 7)
	rests(t, b)
	tells(t, a, 0, "5 0 0")
	tells(t, b, 0, "7 1 0")
	firsts(t, a, "x _")
	firsts(t, b, "_ x")
}

// The time 0 is gone through, whether something is then or not; others only, if something is.
func TestLp1Next(t *testing.T) {
	x := of(t, wire, "0 1", 0, "3 0 1, 4 0 1, 8 0 0", 7)
	if x.Done() != -1 {
		t.Error(x.Done())
	}
	steps(t, x, 0)
	steps(t, x, 3, ev(5, 1, "1", 0, 1))
	// What is put and is the same is gone through, too.
	steps(t, x, 4)
	rests(t, x)
	// The horizon is included.
	x = of(t, wire, "0 1", 0, "3 0 1, 4 0 1, 8 0 0", 8)
	for _, time := range []int{0, 3, 4, 8} {
		next(t, x, time)
		next(t, x, time)
		x.Step()
	}
	rests(t, x)
	x = of(t, wire, "0 1", 1, "0 0 1, 3 0 1", 0)
	steps(t, x, 0)
	rests(t, x)
	// Its own events count, too.
	x = of(t, wire, "0 0", 0, "0 0 1, 1 0 0, 9 0 x", 10)
	for _, time := range []int{0, 1, 2, 3, 9} {
		steps(t, x, time)
	}
	rests(t, x)
	tells(t, x, 0, "0 0 1, 1 0 0, 2 1 1, 3 1 0, 9 0 x")
}

// Without a stimulus: what is known ahead of the time 0 is sent at 0.
func TestLp1Constants(t *testing.T) {
	x := of(t, "const 1; delay@3 1 0; const x; delay@1 1 2; const z; delay@1 1 4; const x1; delay@4 2 6", "0 1 0 1 0 1 0 0", 0, "", 9)
	firsts(t, x, "1 _ x _ z _ x1 xx")
	steps(t, x, 0, ev(3, 1, "1", 0, 1), ev(1, 5, "z", 0, 2))
	steps(t, x, 4)
	rests(t, x)
	tells(t, x, 0, "4 7 x1")
	firsts(t, x, "1 _ x _ z _ x1 xx")
}

// Events come by the numbers of their nodes; their own numbers rise with each that is made, also for itself.
func TestLp1Numbers(t *testing.T) {
	x := of(t, "delay@3 1 4; delay@1 1 4; delay@1 1 4; delay@2 1 4; in 1; delay@1 1 4; delay@9 1 4", "1 0 2 1 0 0 2", 0, "0 4 1, 1 4 0, 4 4 x", 20)
	steps(t, x, 0, ev(3, 0, "1", 0, 1), ev(1, 2, "1", 0, 3), ev(2, 3, "1", 0, 4), ev(9, 6, "1", 0, 6))
	steps(t, x, 1, ev(4, 0, "0", 0, 7), ev(2, 2, "0", 0, 9), ev(3, 3, "0", 0, 10), ev(10, 6, "0", 0, 12))
	steps(t, x, 2)
	steps(t, x, 4, ev(7, 0, "x", 0, 13), ev(5, 2, "x", 0, 15), ev(6, 3, "x", 0, 16), ev(13, 6, "x", 0, 18))
	steps(t, x, 5)
	rests(t, x)
	tells(t, x, 0, "0 4 1, 1 1 1, 1 4 0, 1 5 1, 2 1 0, 2 5 0, 4 4 x, 5 1 x, 5 5 x")
	// From is the number of the part.
	x = of(t, "delay@3 1 1; in 1", "0 1", 1, "2 1 1", 20)
	steps(t, x, 0)
	steps(t, x, 2, ev(5, 0, "1", 1, 1))
}

// What goes in at the end of a time counts, if it is not what was sent last.
func TestLp1Sends(t *testing.T) {
	x := of(t, "in 1; in 1; and 1 0 1; delay@2 1 2", "0 0 0 1", 0, "0 0 0, 1 0 1, 2 1 1, 3 0 0, 3 1 0, 4 0 x, 5 1 1, 6 0 x, 6 1 x", 20)
	steps(t, x, 0, ev(2, 3, "0", 0, 1))
	steps(t, x, 1, ev(3, 3, "x", 0, 2))
	steps(t, x, 2, ev(4, 3, "1", 0, 3))
	steps(t, x, 3, ev(5, 3, "0", 0, 4))
	steps(t, x, 4)
	steps(t, x, 5, ev(7, 3, "x", 0, 5))
	steps(t, x, 6)
	rests(t, x)
}

// Only what is of its part is done and told; a node may be several nets.
func TestLp1Own(t *testing.T) {
	text := "in 1; in 2; not 1 0; delay@1 1 2; delay@1 2 1; not 2 4; const z | 1 0 2 2 3 5 4 3 6"
	stim := "0 0 01, 0 1 1, 2 0 11, 3 1 0"
	a := of(t, text, "0 1 0 2 2 2 1", 0, stim, 9)
	firsts(t, a, "_ x x x _ _ _ _ _")
	steps(t, a, 0, ev(1, 3, "0", 0, 1))
	steps(t, a, 3, ev(4, 3, "1", 0, 2))
	rests(t, a)
	tells(t, a, 0, "0 1 1, 0 2 0, 0 3 0, 3 1 0, 3 2 1, 3 3 1")
	b := of(t, text, "0 1 0 2 2 2 1", 1, stim, 9)
	firsts(t, b, "xx _ _ _ _ _ _ _ z")
	steps(t, b, 0, api.Event{Time: 1, Node: 4, Value: "01", From: 1, Seq: 1})
	steps(t, b, 2, api.Event{Time: 3, Node: 4, Value: "11", From: 1, Seq: 2})
	rests(t, b)
	tells(t, b, 0, "0 0 01, 2 0 11")
	c := of(t, text, "0 1 0 2 2 2 1", 2, stim, 9)
	firsts(t, c, "_ _ _ _ x xx xx x _")
	steps(t, c, 0)
	rests(t, c)
	takes(t, c, ev(4, 3, "1", 0, 2), api.OK)
	takes(t, c, api.Event{Time: 1, Node: 4, Value: "01", From: 1, Seq: 1}, api.OK)
	takes(t, c, ev(1, 3, "0", 0, 1), api.OK)
	steps(t, c, 1)
	tells(t, c, 0, "1 4 0, 1 5 10, 1 6 01, 1 7 0")
	takes(t, c, api.Event{Time: 3, Node: 4, Value: "11", From: 1, Seq: 2}, api.OK)
	steps(t, c, 3)
	steps(t, c, 4)
	rests(t, c)
	tells(t, c, 2, "3 5 00, 3 6 11, 4 4 1, 4 7 1")
}

// Flip-flops: the clock comes from elsewhere, the data is its own, or the other way round.
func TestLp1Flips(t *testing.T) {
	text := "in 1; delay@1 1 0; in 1; flip 1 1 2; not 1 3; flip 1 4 1; delay@1 1 3"
	x := of(t, text, "0 1 1 1 1 1 0", 1, "0 2 1, 2 2 0", 9)
	takes(t, x, ev(1, 1, "0", 0, 1), api.OK)
	takes(t, x, ev(2, 1, "1", 0, 2), api.OK)
	takes(t, x, ev(3, 1, "0", 0, 3), api.OK)
	steps(t, x, 0)
	steps(t, x, 1)
	steps(t, x, 2, ev(3, 6, "0", 1, 1))
	steps(t, x, 3)
	rests(t, x)
	tells(t, x, 0, "0 2 1, 1 1 0, 2 1 1, 2 2 0, 2 3 0, 2 4 1, 2 5 1, 3 1 0")
}

// Of several events for a node at one time the one with the highest number counts; what was between is no rise.
func TestLp1SameTime(t *testing.T) {
	text := "in 1; delay@1 1 0; const 1; flip 1 1 2"
	for _, order := range [][]int{{0, 1, 2}, {2, 1, 0}, {1, 2, 0}} {
		for values, want := range map[string]string{"010": "", "101": "4 1 1", "001": "4 1 1", "100": "", "111": "4 1 1", "011": "4 1 1", "110": "", "0x1": "4 1 1"} {
			x := of(t, text, "0 1 1 1", 1, "", 9)
			takes(t, x, ev(3, 1, "0", 0, 1), api.OK)
			for _, i := range order {
				takes(t, x, ev(4, 1, values[i:i+1], 0, 7+i), api.OK)
			}
			steps(t, x, 0)
			steps(t, x, 3)
			steps(t, x, 4)
			rests(t, x)
			tells(t, x, 4, want+map[bool]string{true: ", 4 3 1"}[want != ""])
			// From 1, by way of 0, to 1: it does not rise.
			x = of(t, "in 1; delay@1 1 0; in 1; flip 1 1 2", "0 1 1 1", 1, "0 2 0, 4 2 1", 9)
			takes(t, x, ev(2, 1, "0", 0, 1), api.OK)
			takes(t, x, ev(3, 1, "1", 0, 2), api.OK)
			takes(t, x, ev(4, 1, "0", 0, 3), api.OK)
			takes(t, x, ev(4, 1, "1", 0, 4), api.OK)
			for _, time := range []int{0, 2, 3, 4} {
				steps(t, x, time)
			}
			rests(t, x)
			tells(t, x, 3, "3 1 1, 3 3 0, 4 2 1")
		}
	}
}

// Flip-flops that are one another's clocks go round by round, as in one netlist.
func TestLp1Rounds(t *testing.T) {
	text := "in 1; const 0; flip 1 0 5; not 1 2; flip 1 3 6; in 1; not 1 4; flip 1 6 2; delay@1 1 7"
	x := of(t, text, "0 0 0 0 0 0 0 0 1", 0, "0 0 0, 0 5 1, 1 0 1, 2 0 0, 2 5 0, 3 0 1, 4 0 0, 4 5 1, 5 0 1, 6 0 0, 6 5 0, 7 0 1", 9)
	l := netlist(text)
	m := newModel(l, parts(l, "0 0 0 0 0 0 0 0 1"), 0, changes("0 0 0, 0 5 1, 1 0 1, 2 0 0, 2 5 0, 3 0 1, 4 0 0, 4 5 1, 5 0 1, 6 0 0, 6 5 0, 7 0 1"), 9)
	b := pair{x: x, m: m}
	for range 10 {
		b.step(t)
	}
	if len(x.Changes(0)) < 20 {
		t.Error(x.Changes(0))
	}
}

// A loop by its own delays swings.
func TestLp1Swings(t *testing.T) {
	x := of(t, "in 1; delay@3 1 3; and 1 0 1; not 1 2; delay@1 1 3 | 0 1", "0 0 0 0 1", 0, "1 0 0, 6 0 1", 15)
	steps(t, x, 0)
	steps(t, x, 1, ev(2, 4, "1", 0, 2))
	steps(t, x, 4)
	steps(t, x, 6, ev(7, 4, "0", 0, 4))
	steps(t, x, 9, ev(10, 4, "1", 0, 6))
	steps(t, x, 12, ev(13, 4, "0", 0, 8))
	steps(t, x, 15, ev(16, 4, "1", 0, 10))
	rests(t, x)
	tells(t, x, 0, "1 0 0, 4 1 1, 6 0 1, 9 1 0, 12 1 1, 15 1 0")
}

// The changes since a time.
func TestLp2Changes(t *testing.T) {
	x := of(t, wire, "0 0", 0, "0 0 1, 2 0 0, 5 0 0, 6 0 1", 9)
	all := "0 0 1, 2 0 0, 2 1 1, 4 1 0, 6 0 1, 8 1 1"
	tells(t, x, least, "")
	for _, time := range []int{0, 2, 4, 5, 6, 8} {
		steps(t, x, time)
		var want []api.Change
		for _, c := range changes(all) {
			if c.Time <= time {
				want = append(want, c)
			}
		}
		if got := x.Changes(0); !slices.Equal(got, want) {
			t.Errorf("%d: %v", time, got)
		}
	}
	rests(t, x)
	for from := range 12 {
		var want []api.Change
		for _, c := range changes(all) {
			if c.Time >= from {
				want = append(want, c)
			}
		}
		if got := x.Changes(from); !slices.Equal(got, want) {
			t.Errorf("%d: %v", from, got)
		}
	}
	tells(t, x, least, all)
	tells(t, x, -1, all)
	tells(t, x, most, "")
}

// An event counts from the moment it is told, if that is ahead of its time.
func TestLp2Take(t *testing.T) {
	x := of(t, wire, "0 1", 1, "", 9)
	takes(t, x, ev(0, 1, "z", 0, 1), api.OK)
	takes(t, x, ev(9, 1, "x", 0, 9), api.OK)
	takes(t, x, ev(10, 1, "0", 0, 10), api.OK)
	steps(t, x, 0)
	next(t, x, 9)
	takes(t, x, ev(1, 1, "1", 0, 2), api.OK)
	next(t, x, 1)
	takes(t, x, ev(7, 1, "1", 0, 3), api.OK)
	steps(t, x, 1)
	takes(t, x, ev(4, 1, "0", 0, 4), api.OK)
	for _, time := range []int{4, 7, 9} {
		steps(t, x, time)
	}
	rests(t, x)
	tells(t, x, 0, "0 1 z, 1 1 1, 4 1 0, 7 1 1, 9 1 x")
	// What it is told behind the horizon is there, and stays.
	takes(t, x, ev(11, 1, "0", 0, 10), api.ErrArg)
	takes(t, x, ev(api.MaxTime, 1, "0", 0, 11), api.OK)
	rests(t, x)
	cancels(t, x, 0, 10, true)
	cancels(t, x, 0, 11, true)
	cancels(t, x, 0, 11, false)
}

func TestLp2Cancel(t *testing.T) {
	x := of(t, "in 1; delay@2 1 0; in 1; delay@2 1 2; delay@1 1 1", "0 2 1 2 2", 2, "", 9)
	for i, e := range []api.Event{ev(3, 1, "1", 0, 1), ev(4, 1, "0", 0, 2), ev(3, 3, "1", 1, 1), ev(5, 3, "0", 1, 2)} {
		takes(t, x, e, api.OK)
		cancels(t, x, 0, 9+i, false)
	}
	cancels(t, x, 0, 2, true)
	cancels(t, x, 0, 2, false)
	cancels(t, x, 2, 2, false)
	steps(t, x, 0)
	steps(t, x, 3)
	// What was gone through is not there any more; what it made itself nobody takes back.
	cancels(t, x, 0, 1, false)
	cancels(t, x, 1, 1, false)
	cancels(t, x, 2, 1, false)
	// A number that is free may be taken again.
	takes(t, x, ev(8, 1, "z", 0, 1), api.OK)
	takes(t, x, ev(6, 1, "z", 0, 2), api.OK)
	cancels(t, x, 1, 2, true)
	cancels(t, x, 0, 2, true)
	steps(t, x, 4)
	tells(t, x, 0, "3 1 1, 3 3 1, 4 4 1")
	cancels(t, x, 0, 1, true)
	rests(t, x)
}

// Neither of a process and its copy knows of the other.
func TestLp2Copy(t *testing.T) {
	text, parting, stim := "in 1; delay@2 1 0; in 1; and 1 1 2; delay@3 1 3; delay@1 1 3 | 0 1 2 3 4", "0 1 1 1 1 0", "0 2 1, 5 2 0"
	x := of(t, text, parting, 1, stim, 9)
	y := x.Copy()
	steps(t, x, 0)
	takes(t, x, ev(2, 1, "1", 0, 1), api.OK)
	if y.Done() != -1 {
		t.Error(y.Done())
	}
	takes(t, y, ev(0, 1, "0", 0, 1), api.OK)
	z := x.Copy()
	steps(t, x, 2, ev(3, 5, "1", 1, 2))
	steps(t, y, 0, ev(1, 5, "0", 1, 2))
	cancels(t, z, 0, 1, true)
	takes(t, z, ev(1, 1, "z", 0, 1), api.OK)
	steps(t, z, 1)
	w := x.Copy()
	steps(t, x, 5, ev(6, 5, "0", 1, 4))
	steps(t, y, 3)
	steps(t, z, 5, ev(6, 5, "0", 1, 2))
	takes(t, w, ev(4, 1, "0", 0, 2), api.OK)
	steps(t, w, 4, ev(5, 5, "0", 1, 4))
	steps(t, w, 5)
	steps(t, w, 7)
	rests(t, w)
	tells(t, x, 0, "0 2 1, 2 1 1, 2 3 1, 5 2 0, 5 3 0, 5 4 1")
	tells(t, y, 0, "0 1 0, 0 2 1, 0 3 0, 3 4 0")
	tells(t, z, 0, "0 2 1, 1 1 z, 5 2 0, 5 3 0")
	tells(t, w, 0, "0 2 1, 2 1 1, 2 3 1, 4 1 0, 4 3 0, 5 2 0, 5 4 1, 7 4 0")
	for _, c := range []*lp.Process{x, y, z, w} {
		firsts(t, c, "_ x x x x")
	}
}
