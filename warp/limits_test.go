package warp_test

import (
	"fmt"
	"silkworm/api"
	"silkworm/warp"
	"slices"
	"strings"
	"testing"
)

// times is picks again and again.
func times(count int, text string) []api.Pick {
	return slices.Repeat(picks(text), count)
}

// own has four delays of its own, that are long: 1024 times fill its queue.
func own() sim {
	return simOf("in 1; delay@5000 1 0; delay@5000 1 0; delay@5000 1 0; delay@5000 1 0; delay@1 1 0", "0 0 0 0 0 1", toggles(2000, 0), 20000)
}

// ErrQueue of a process that goes ahead: the script ends there, and what is told begins the waveform.
func TestWa1QueueOwn(t *testing.T) {
	s := own()
	full := times(1024, "1 0")
	s.stops(t, slices.Concat(full, picks("1 0, 3 0, 1 1")), 1024, 0, api.ErrQueue)
	begun := slices.Concat(full, picks("3 0, 1 1, 1 1, 1 1"))
	s.does(t, begun, 3)
	// Nothing is done behind it.
	for _, more := range []string{"", "1 1", "1 0, 1 0", "3 0, 1 1, 1 1, 1 1", "0 0, 2 0"} {
		s.stops(t, slices.Concat(begun, picks("1 0"), picks(more)), len(begun), 3, api.ErrQueue)
	}
	// Both are through 1023; what comes of that is at 1024.
	s.stops(t, s.rounds(1026), 1024*3, 1024, api.ErrQueue)
}

// ErrQueue comes ahead of ErrSaved.
func TestWa1QueueOrSaved(t *testing.T) {
	full := times(1030, "1 0")
	own().with(1023).stops(t, full, 1023, 0, api.ErrSaved)
	own().with(1024).stops(t, full, 1024, 0, api.ErrQueue)
	own().with(1025).stops(t, full, 1024, 0, api.ErrQueue)
	own().with(1).stops(t, full, 1, 0, api.ErrSaved)
}

// fed has four delays that another process feeds, so late.
func fed(late int, more string) sim {
	one := fmt.Sprintf("; delay@%d 1 0", late)
	return simOf("in 1"+strings.Repeat(one, 4)+more, "0 1 1 1 1"+strings.Repeat(" 1", strings.Count(more, ";")), toggles(1200, 0), 20000)
}

// ErrQueue of a process to which an event comes, by one pick, or in the midst of a pick.
func TestWa1QueueTaken(t *testing.T) {
	s := fed(5000, "")
	ahead := times(1025, "1 0")
	s.stops(t, slices.Concat(ahead, times(4096, "2 0"), picks("2 0, 1 1")), 1025+4096, 0, api.ErrQueue)
	s.stops(t, slices.Concat(ahead, picks("1 1, 3 0, 1 1")), 1026, 1025, api.ErrQueue)
	// As many as there may be.
	s.does(t, slices.Concat(times(1024, "1 0"), picks("3 0, 1 1, 1 0, 1 0")), 1026)
	// It is not whole beside an error, also if all of its waveform is told.
	s.horizon = 1199
	whole := slices.Concat(times(1200, "1 0"), picks("1 1"))
	s.does(t, whole, 1200)
	s.stops(t, slices.Concat(whole, picks("3 0")), 1201, 1200, api.ErrQueue)
}

// What was refused did not come: what hangs on it is not told, also if all else is later.
func TestWa1QueueRefused(t *testing.T) {
	m := newModel(t, fed(5000, "; delay@1 1 0"))
	m.all(picks("1 1"))
	m.all(times(1030, "1 0"))
	for range api.MaxQueue {
		m.tell(func(v api.Event) bool { return v.Time >= 5000 })
	}
	for n := range m.under {
		if m.under[n].Time == 1 {
			script := append(slices.Clone(m.did), api.Pick{Kind: 2, N: n}, api.Pick{Kind: 2}, api.Pick{Kind: 3})
			m.stops(t, script, len(m.did), 1, api.ErrQueue)
		}
	}
	m.stops(t, append(slices.Clone(m.did), picks("3 0")...), len(m.did), 1, api.ErrQueue)
}

// Going back, what had come since counts again: there may be too many then.
func TestWa1QueueBack(t *testing.T) {
	m := newModel(t, fed(1, ""))
	m.all(slices.Concat(picks("1 1"), times(1100, "1 0"), times(api.MaxQueue-1, "2 1"), picks("1 1")))
	m.does(t, m.did, 1)
	m.does(t, append(slices.Clone(m.did), picks("2 0")...), 1)
	m.does(t, append(slices.Clone(m.did), picks("2 0, 1 1, 1 1, 1 1")...), 4)
	// Three were gone through: there is room for one more than these, as long as it does not go back.
	for range 4 {
		m.pick(api.Pick{Kind: 2, N: 1})
		m.does(t, m.did, 1)
		m.stops(t, append(slices.Clone(m.did), picks("2 0, 1 1")...), len(m.did), 1, api.ErrQueue)
	}
	m.stops(t, append(slices.Clone(m.did), picks("2 1, 1 1")...), len(m.did), 1, api.ErrQueue)
}

// Going back, what was taken back since does not count: there is room for as many others.
func TestWa1QueueTakenBack(t *testing.T) {
	// 0: a, and what comes from 2; 1: what comes from 0, 1000 later, and from 3; 2: c; 3: f.
	s := simOf("in 1; delay@1 1 2; in 1; and 1 0 1; delay@1000 1 3; delay@1000 1 3; in 1; delay@1 1 6; delay@1 1 6; delay@1 1 6; delay@1 1 6", "0 0 2 0 1 1 3 1 1 1 1", nil, 20000)
	s.stim = slices.Concat(changes("0 0 0, 0 2 1, 0 6 0"), toggles(1100, 6)[1:])
	s.stim = slices.Insert(s.stim, 6, changes("3 0 1")[0])
	slices.SortFunc(s.stim, func(a, b api.Change) int { return (a.Time-b.Time)*100 + a.Net - b.Net })
	m := newModel(t, s)
	from := func(k int) func(api.Event) bool {
		return func(v api.Event) bool { return v.From == k }
	}
	later := func(v api.Event) bool { return v.From == 3 && (v.Time > 1 || v.Node > 7) }
	m.all(picks("1 1, 1 2, 1 0, 1 0"))
	m.all(times(1050, "1 3"))
	for range 4 {
		m.tell(from(0))
	}
	for range api.MaxQueue - 4 {
		m.tell(later)
	}
	m.all(picks("1 1"))
	m.tell(from(2))
	if n := slices.IndexFunc(m.under, func(v api.Event) bool { return v.Anti }); n < 0 || m.under[n].Time != 1003 {
		t.Fatal(brief(m.under))
	}
	m.tell(from(0))
	m.tell(from(0))
	m.does(t, m.did, 1)
	m.tell(later)
	back := picks("2 0")
	if v := m.under[0]; v.From != 3 || v.Time != 1 {
		t.Fatal(v)
	}
	m.does(t, append(slices.Clone(m.did), back...), 1)
	m.tell(later)
	m.stops(t, append(slices.Clone(m.did), back...), len(m.did), 1, api.ErrQueue)
}

// As many states as may be saved, and so many that may not.
func TestWa1Saved(t *testing.T) {
	s := simOf(wire, "0 1", toggles(5000, 0), 9000)
	for _, saved := range []int{1, 2, 3, 17, api.MaxQueue - 1, api.MaxQueue} {
		s.with(saved).stops(t, slices.Concat(times(saved+1, "1 0"), picks("1 1, 3 0, 1 1")), saved, 0, api.ErrSaved)
		// Others do not count.
		s.with(saved).does(t, slices.Concat(picks("3 0, 1 1"), times(saved, "1 0"), picks("1 1, 2 9")), min(saved, 2))
	}
	// Wa4: with MaxQueue of them, and fewer picks.
	s.does(t, times(api.MaxQueue-1, "1 0"), 0)
	s.does(t, times(api.MaxQueue/2, "1 0, 2 0")[1:], 0)
}

// States that the GVT is beyond are dropped, not those that it is at.
func TestWa1SavedDropped(t *testing.T) {
	s := simOf(wire, "0 1", toggles(10, 0), 9)
	script := picks("1 0, 1 1, 1 0, 1 0, 1 0, 1 0")
	// Through 0, 1 and 2, what is at 2 being under way.
	s.with(1).stops(t, script, 4, 2, api.ErrSaved)
	s.with(2).stops(t, script, 5, 2, api.ErrSaved)
	s.with(3).does(t, script, 2)
	// It comes, and is gone through: that is all that there was to wait for.
	s.with(1).ends(t, "1 0 = 0, 1 1 = 1, 1 0 = 2, 1 0 = 2, 2 0 = 2, 1 1 = 3, 1 0 = 3, 2 0 = 3, 1 1 = 4, 1 0 = 4")
	// Who has no next time saves none.
	s = simOf(wire, "0 1", changes("0 0 1"), 9)
	s.with(1).ends(t, "1 0 = 0, 1 0 = 0, 1 0 = 0, 1 1 = 2, 1 0 = 2, 1 1 = 2, 3 0 = 2, 1 1 = 10, 1 1 = 10")
	// Rounds that all keep up with need one or two.
	s = simOf(ring, "0 1 1 0", toggles(10, 0, 2), 9)
	s.with(1).does(t, s.enough(t), 10)
}

// Going back gives up the states that it goes back over.
func TestWa1SavedBack(t *testing.T) {
	s := gone().with(2)
	begin := picks("1 1, 1 1, 1 0, 1 0, 2 2, 1 1")
	s.does(t, begin, 0)
	s.stops(t, append(begin, picks("1 1")...), len(begin), 0, api.ErrSaved)
	s.with(3).does(t, append(begin, picks("1 1")...), 0)
	s.with(3).does(t, append(begin, picks("1 1, 1 1, 1 0, 1 0, 1 2")...), 3)
}

// Times about the last one that there is.
func TestWa1FarTimes(t *testing.T) {
	const last = api.MaxTime
	stim := []api.Change{{Time: 5, Value: "1"}, {Time: last - 1<<20, Value: "0"}, {Time: last - 3, Value: "z"}, {Time: last - 1, Value: "1"}, {Time: last, Value: "0"}}
	for _, horizon := range []int{last, last - 1, last - 2, last - 1<<20, last - 1<<20 - 1} {
		s := simOf("in 1; delay@2 1 0; delay@1048576 1 0; not 1 2", "0 1 2 2", stim, horizon)
		s.does(t, s.rounds(30), horizon+1)
		s.again(t, s.rounds(3))
		s.again(t, s.rounds(4))
		s.again(t, picks("1 0, 1 0, 1 0, 1 0, 1 1, 1 2, 2 4, 1 2, 2 2, 1 2, 1 1, 3 0, 1 2, 1 2, 1 1, 1 1"))
	}
	s := simOf("in 1; delay@1048576 1 0; delay@1048576 1 1", "0 1 0", stim, last)
	s.again(t, s.rounds(9))
	s.does(t, s.rounds(14), last+1)
}

// The last horizon of which Rounds tells something.
func TestWa4LongHorizon(t *testing.T) {
	s := simOf("in 1; delay@2 1 0; delay@3 1 1 | 0 1 2", "0 1 0", changes("7 0 1, 1048570 0 0"), 1<<20)
	s.does(t, s.enough(t), 1<<20+1)
	s = simOf("in 1; not 1 0", "0 0", changes("1048576 0 1"), 1<<20)
	s.does(t, s.enough(t), 1<<20+1)
}

// As many parts as there may be: one behind the other, and in a ring.
func TestWa4ManyParts(t *testing.T) {
	d := dice(10)
	text, of := "in 1", []int{0}
	for k := range api.MaxParts - 1 {
		text += fmt.Sprintf("; delay@%d 1 %d; not 1 %d", 1+k%3, 2*k, 2*k+1)
		of = append(of, k+1, k+1)
	}
	l := netlist(text)
	s := sim{l: l, p: withAhead(l, of), stim: changes("0 0 1, 3 0 0, 4 0 x, 9 0 1"), horizon: 150, saved: api.MaxQueue}
	s.does(t, s.enough(t), 151)
	s.again(t, d.script(s, 2000))
	l = netlist(text + "; delay@1 1 126; flip 1 0 127")
	s = sim{l: l, p: withAhead(l, append(slices.Clone(of), 0, 0)), stim: toggles(150, 0), horizon: 150, saved: api.MaxQueue}
	s.does(t, s.enough(t), 151)
	s.again(t, d.script(s, 2000))
	if s.p.N != api.MaxParts {
		t.Error(s.p.N)
	}
}

// All go ahead as far as they can by their own inputs; then what the first one told comes at last, and all of them go back, one behind the other, within one pick.
func TestWa1LongWayBack(t *testing.T) {
	text, of := "in 1; not 1 0", []int{0, 0}
	var stim []api.Change
	for k := range api.MaxParts - 1 {
		// A delay of what is ahead, an input, and both of them.
		text += fmt.Sprintf("; delay@1 1 %d; in 1; and 1 %d %d", max(1, 3*k+1), 3*k+2, 3*k+3)
		of = append(of, k+1, k+1, k+1)
	}
	for time := range 4 {
		for k := range api.MaxParts - 1 {
			stim = append(stim, api.Change{Time: 20 * time, Net: 3*k + 3, Value: []string{"0", "1"}[time%2]})
		}
		stim = slices.Insert(stim, time*api.MaxParts, api.Change{Time: 20 * time, Net: 0, Value: []string{"1", "0", "1", "x"}[time]})
	}
	l := netlist(text)
	s := sim{l: l, p: withAhead(l, of), stim: stim, horizon: 200, saved: api.MaxQueue}
	m := newModel(t, s)
	for range 6 {
		for k := api.MaxParts - 1; k > 0; k-- {
			m.all([]api.Pick{{Kind: 1, N: k}})
		}
	}
	m.all(picks("1 0, 1 0, 1 0, 1 0"))
	before := len(m.under)
	m.all(picks("3 0"))
	if before < 100 || m.backs < 60 {
		t.Error(before, m.backs)
	}
	s.again(t, m.did)
	s.does(t, append(m.did, s.enough(t)...), 201)
}

// Each process reaches each other one.
func TestWa4AllReachAll(t *testing.T) {
	d := dice(11)
	var l api.Netlist
	var of []int
	for k := range api.MaxParts {
		l.Nodes = append(l.Nodes, api.Node{Kind: api.NdIn, Wide: 1})
		l.Nets = append(l.Nets, k)
		of = append(of, k)
	}
	for i := range api.MaxParts {
		for j := range api.MaxParts {
			if i != j && len(l.Nodes) < api.MaxNodes {
				l.Nodes = append(l.Nodes, api.Node{Kind: api.NdDelay, Wide: 1, Ins: []int{i}, Time: 1 + (i+j)%4})
				l.Nets = append(l.Nets, len(l.Nodes)-1)
				of = append(of, j)
			}
		}
	}
	l.Ports = len(l.Nets)
	s := sim{l: l, p: withAhead(l, of), stim: toggles(4, 3, 40), horizon: 6, saved: api.MaxQueue}
	if n := len(warp.Round(s.p)); n != 65 {
		t.Fatal(n)
	}
	s.does(t, s.enough(t), 7)
	s.again(t, d.script(s, 400))
}

// Values as wide as may be.
func TestWa1Wide(t *testing.T) {
	wide := func(bits string) string { return strings.Repeat(bits, api.MaxWide/len(bits)) }
	s := simOf("in 256; not 256 0; delay@1 256 1; not 256 2", "0 0 1 1", []api.Change{{Time: 1, Value: wide("01xz")}}, 3)
	s.does(t, s.enough(t), 4)
	w, _, _, _ := s.run(s.enough(t))
	if len(w.List) != 4 || w.List[2].Value != wide("10xx") || w.List[3].Value != wide("01xx") || w.Wides[3] != 256 || w.First[2] != wide("x") {
		t.Error(w)
	}
}
