package conserv_test

import (
	"fmt"
	"silkworm/api"
	"silkworm/conserv"
	"slices"
	"strings"
	"testing"
)

// times is a pick again and again.
func times(count int, text string) []api.Pick {
	return slices.Repeat(picks(text), count)
}

// ErrQueue of a process that goes on: the script ends there, and what is told begins the waveform.
func TestCo1QueueOwn(t *testing.T) {
	s := simOf("in 1; delay@5000 1 0; delay@1 1 0", "0 0 1", toggles(6000, 0), 20000)
	full := times(api.MaxQueue, "1 0")
	s.answers(t, full, 0, false, api.OK)
	s.answers(t, append(slices.Clone(full), picks("3 0, 1 1, 1 1, 1 1")...), 3, false, api.OK)
	over := slices.Concat(full, picks("3 0, 1 1, 1 1, 1 1, 1 0"))
	s.answers(t, over, 3, false, api.ErrQueue)
	// Nothing is done behind it.
	for _, more := range []string{"1 1", "1 0, 1 0", "3 0, 1 1, 1 1, 1 1", "0 0, 2 0"} {
		s.answers(t, append(slices.Clone(over), picks(more)...), 3, false, api.ErrQueue)
	}
	s.answers(t, append(slices.Clone(full), picks("1 0, 3 0, 1 1")...), 0, false, api.ErrQueue)
	s.answers(t, s.rounds(api.MaxQueue+1), api.MaxQueue-1, false, api.ErrQueue)
	// The other part goes on up to the time that was not gone through.
	s.answers(t, slices.Concat(full, picks("3 0"), times(api.MaxQueue+1, "1 1"), picks("1 0")), api.MaxQueue, false, api.ErrQueue)
}

// ErrQueue of a process to which an event comes, by one pick, or in the midst of a pick.
func TestCo1QueueTaken(t *testing.T) {
	s := simOf("in 1; delay@5000 1 0", "0 1", toggles(6000, 0), 20000)
	ahead := times(api.MaxQueue+4, "1 0")
	begin := slices.Concat(picks("1 0, 3 0, 1 1"), ahead)
	// An event and the promise of the time 0 are there already.
	end := api.MaxQueue + 5
	s.answers(t, begin, end, false, api.OK)
	s.answers(t, slices.Concat(begin, times(2*(api.MaxQueue-1), "2 0")), end, false, api.OK)
	s.answers(t, slices.Concat(begin, times(2*(api.MaxQueue-1), "2 0"), picks("2 0")), end, false, api.ErrQueue)
	s.answers(t, slices.Concat(begin, picks("3 0")), end, false, api.ErrQueue)
	s.answers(t, slices.Concat(begin, picks("3 0, 1 0, 1 0, 1 0, 3 0")), end, false, api.ErrQueue)
	// What it had not gone through ahead of that stays so.
	s.answers(t, slices.Concat(ahead, picks("3 0, 1 1")), 0, false, api.ErrQueue)
	// As many as there may be.
	s.answers(t, slices.Concat(picks("1 0, 3 0, 1 1"), times(api.MaxQueue-1, "1 0"), picks("3 0"), times(200, "1 0")), api.MaxQueue+200, false, api.OK)
	// If it goes through them in time, there is room.
	s.answers(t, slices.Concat(begin[:len(begin)-5], picks("3 0, 1 1, 1 0, 3 0, 1 1, 1 0, 3 0")), api.MaxQueue+2, false, api.OK)
}

// It is not whole beside an error, also if all of its waveform is told.
func TestCo1QueueWhole(t *testing.T) {
	s := simOf("in 1; delay@5000 1 0", "0 1", toggles(4200, 0), 4199)
	script := slices.Concat(picks("1 0, 3 0, 1 1"), times(4199, "1 0"))
	s.answers(t, script, 4200, true, api.OK)
	s.answers(t, append(script, picks("3 0")...), 4200, false, api.ErrQueue)
}

// A promise is at most the horizon and 1: behind it there is no other one on that channel, but events alone.
func TestCo1LastPromise(t *testing.T) {
	s := simOf("in 1; delay@5000 1 0", "0 1", toggles(4200, 0), 4199)
	script := slices.Concat(picks("1 0, 2 0, 2 0, 1 1"), times(4199, "1 0"), times(api.MaxQueue-1, "2 0"))
	s.answers(t, script, 4200, true, api.OK)
	s.answers(t, append(script, picks("2 0")...), 4200, false, api.ErrQueue)
}

// A process of several channels: the events of all of them count.
func TestCo1QueueMany(t *testing.T) {
	s := simOf("in 1; in 1; delay@3000 1 0; delay@3000 1 1; in 1", "0 1 2 2 2", toggles(3000, 0, 1, 4), 9000)
	half := api.MaxQueue / 2
	script := slices.Concat(times(half, "1 0"), times(half, "1 1"), picks("3 0"))
	s.again(t, script)
	s.again(t, append(slices.Clone(script), picks("3 1")...))
	end, e := s.again(t, slices.Concat(script, picks("3 1, 1 2, 1 2, 1 2, 1 1, 2 1")))
	if end != 3 || e != api.ErrQueue {
		t.Error(end, e)
	}
	end, e = s.again(t, slices.Concat(script, picks("3 1"), times(3001, "1 2"), picks("1 1, 3 1")))
	if end != half || e != api.OK {
		t.Error(end, e)
	}
}

// Times about the last one that there is.
func TestCo1FarTimes(t *testing.T) {
	const last = api.MaxTime
	stim := []api.Change{{Time: 5, Value: "1"}, {Time: last - 1<<20, Value: "0"}, {Time: last - 3, Value: "z"}, {Time: last - 1, Value: "1"}, {Time: last, Value: "0"}}
	for _, horizon := range []int{last, last - 1, last - 2, last - 1<<20, last - 1<<20 - 1} {
		s := simOf("in 1; delay@2 1 0; delay@1048576 1 0; not 1 2", "0 1 2 2", stim, horizon)
		s.answers(t, s.rounds(30), horizon+1, true, api.OK)
		s.again(t, s.rounds(3))
		s.again(t, s.rounds(4))
	}
	// Those that wait for each other bring the clock on by what is between them.
	s := simOf("in 1; delay@1048576 1 0; delay@1048576 1 1", "0 1 0", stim, last)
	end, e := s.again(t, s.rounds(9))
	if end < 5<<20 || end > 10<<20 || e != api.OK {
		t.Error(end, e)
	}
}

// The last horizon of which Rounds tells something.
func TestCo4LongHorizon(t *testing.T) {
	s := simOf("in 1; delay@2 1 0; delay@3 1 1 | 0 1 2", "0 1 0", changes("7 0 1, 1048570 0 0"), 1<<20)
	s.answers(t, s.enough(t), 1<<20+1, true, api.OK)
	s = simOf("in 1; not 1 0", "0 0", changes("1048576 0 1"), 1<<20)
	s.answers(t, s.enough(t), 1<<20+1, true, api.OK)
}

// As many parts as there may be: one behind the other, and in a ring.
func TestCo4ManyParts(t *testing.T) {
	d := dice(9)
	text, of := "in 1", []int{0}
	for k := range api.MaxParts - 1 {
		text += fmt.Sprintf("; delay@%d 1 %d; not 1 %d", 1+k%3, 2*k, 2*k+1)
		of = append(of, k+1, k+1)
	}
	l := netlist(text)
	s := sim{l: l, p: withAhead(l, of), stim: changes("0 0 1, 3 0 0, 4 0 x, 9 0 1"), horizon: 150}
	s.answers(t, s.enough(t), 151, true, api.OK)
	s.again(t, d.script(s, 9000))
	l = netlist(text + "; delay@1 1 126; flip 1 0 127")
	s = sim{l: l, p: withAhead(l, append(slices.Clone(of), 0, 0)), stim: toggles(150, 0), horizon: 150}
	s.answers(t, s.enough(t), 151, true, api.OK)
	s.again(t, d.script(s, 9000))
	if s.p.N != api.MaxParts {
		t.Error(s.p.N)
	}
}

// Each process reaches each other one.
func TestCo4AllReachAll(t *testing.T) {
	d := dice(10)
	var l api.Netlist
	var of []int
	for k := range api.MaxParts {
		l.Nodes = append(l.Nodes, api.Node{Kind: api.NdIn, Wide: 1})
		l.Nets = append(l.Nets, k)
		of = append(of, k)
	}
	for i := range api.MaxParts {
		for j := range api.MaxParts {
			if i != j && len(l.Nodes) < api.MaxNodes {
				l.Nodes = append(l.Nodes, api.Node{Kind: api.NdDelay, Wide: 1, Ins: []int{i}, Time: 1 + (i+j)%4})
				l.Nets = append(l.Nets, len(l.Nodes)-1)
				of = append(of, j)
			}
		}
	}
	l.Ports = len(l.Nets)
	s := sim{l: l, p: withAhead(l, of), stim: toggles(4, 3, 40), horizon: 6}
	if n := len(conserv.Round(s.p)); n != 64*64 {
		t.Fatal(n)
	}
	s.answers(t, s.enough(t), 7, true, api.OK)
	s.again(t, append(s.rounds(3), d.script(s, 2000)...))
}

// Values as wide as may be.
func TestCo1Wide(t *testing.T) {
	wide := func(bits string) string { return strings.Repeat(bits, api.MaxWide/len(bits)) }
	s := simOf("in 256; not 256 0; delay@1 256 1; not 256 2", "0 0 1 1", []api.Change{{Time: 1, Value: wide("01xz")}}, 3)
	s.answers(t, s.enough(t), 4, true, api.OK)
	w, _, _ := s.run(s.enough(t))
	if len(w.List) != 4 || w.List[2].Value != wide("10xx") || w.List[3].Value != wide("01xx") || w.Wides[3] != 256 || w.First[2] != wide("x") {
		t.Error(w)
	}
}
