package engine_test

import (
	"fmt"
	"silkworm/api"
	"silkworm/engine"
	"strings"
	"testing"
)

const mostTimes = 1 << 14

// toggles is changes of a net at each time of a range.
func toggles(net, from, count int) []api.Change {
	var out []api.Change
	for i := range count {
		out = append(out, api.Change{Time: from + i, Net: net, Value: []string{"0", "1"}[i%2]})
	}
	return out
}

// delays is a netlist of an input and so many delays of it.
func delays(count, time int) api.Netlist {
	return netlist("in 1" + strings.Repeat(fmt.Sprintf("; delay@%d 1 0", time), count) + "| 0")
}

// ends tells that a run is taken, and how many changes it has.
func ends(t *testing.T, l api.Netlist, stim []api.Change, horizon, count int) {
	t.Helper()
	if w := run(t, l, stim, horizon); len(w.List) != count {
		t.Errorf("%d changes, not %d", len(w.List), count)
	}
}

func TestEn1Queue(t *testing.T) {
	const most = api.MaxQueue
	one := netlist("in 1; delay@5000 1 0")
	ends(t, one, toggles(0, 0, most), 20000, 2*most)
	refused(t, one, toggles(0, 0, most+1), 20000, api.ErrQueue)
	refused(t, one, toggles(0, 7, most+1), api.MaxTime, api.ErrQueue)
	// What comes out at the horizon counts, what comes out behind it does not.
	refused(t, one, toggles(0, 0, most+1), 5000+most, api.ErrQueue)
	ends(t, one, toggles(0, 0, most+1), 5000+most-1, 2*most+1)
	ends(t, one, toggles(0, 0, most+500), 4999, most+500)
	// What goes in and is the same is not sent.
	same := toggles(0, 0, most)
	for i := range 50 {
		same = append(same, api.Change{Time: most + i, Value: "1"})
	}
	ends(t, one, same, 20000, 2*most)
	// What comes out at a time is not to come any more behind it.
	ends(t, netlist("in 1; delay@4096 1 0"), toggles(0, 0, 10000), 14095, 20000)
	refused(t, netlist("in 1; delay@4097 1 0"), toggles(0, 0, 10000), 14096, api.ErrQueue)
}

// Changes of all delays count together.
func TestEn1QueueOfMany(t *testing.T) {
	ends(t, delays(512, 8), toggles(0, 0, 100), 200, 100)
	refused(t, delays(513, 8), toggles(0, 0, 100), 200, api.ErrQueue)
	ends(t, delays(4095, 1), toggles(0, 0, 100), 200, 100)
	ends(t, delays(2048, 2), toggles(0, 0, 100), 200, 100)
	refused(t, delays(2049, 2), toggles(0, 0, 100), 200, api.ErrQueue)
	refused(t, delays(2049, 2), toggles(0, 0, 2), 3, api.ErrQueue)
	ends(t, delays(2049, 2), toggles(0, 0, 2), 2, 2)
	ends(t, delays(4095, 2), toggles(0, 0, 1), api.MaxTime, 1)
	refused(t, delays(4095, 2), toggles(0, 0, 2), 3, api.ErrQueue)
	// x that goes in at first is not sent.
	unknown := netlist("in 1; not 1 0" + strings.Repeat("; delay@2 1 1", 4000) + "| 0")
	ends(t, unknown, changes("1 0 0"), 50, 1)
	refused(t, unknown, changes("0 0 0, 1 0 x"), 50, api.ErrQueue)
	// What was sent at one time has come out ahead of what is sent at another one.
	apart := append(toggles(0, 0, 1), toggles(0, 2, 1)...)
	apart[1].Value = "1"
	ends(t, delays(4095, 2), apart, 50, 2)
}

// Each horizon, held against a count of what is yet to come.
func TestEn1QueueHorizons(t *testing.T) {
	text := "in 1; in 1; xor 1 0 1; flip 1 0 1"
	for i := range 700 {
		text += fmt.Sprintf("; delay@%d 1 %d", 1+i%23, i%4)
	}
	l := netlist(text + "| 0 1")
	d := dice(1)
	full, fine := 0, 0
	for range 3 {
		stim := makeStimulus(&d, l, 60)
		for horizon := range 60 {
			_, e := engine.Run(l, stim, horizon)
			want := api.OK
			if n := most(l, stim, horizon); n > api.MaxQueue {
				want = api.ErrQueue
				full++
			} else if n > api.MaxQueue/2 {
				fine++
			}
			if e != want {
				t.Errorf("%d: %d, not %d", horizon, e, want)
			}
		}
	}
	if full < 10 || fine < 10 {
		t.Errorf("%d are refused, %d nearly", full, fine)
	}
}

func TestEn1Full(t *testing.T) {
	l := netlist("in 1; in 1; not 1 0 | 0 1")
	ends(t, l, toggles(0, 0, mostTimes), api.MaxTime, mostTimes)
	refused(t, l, toggles(0, 0, mostTimes+1), api.MaxTime, api.ErrFull)
	refused(t, l, toggles(0, 0, mostTimes+1), mostTimes, api.ErrFull)
	ends(t, l, toggles(0, 0, mostTimes+1), mostTimes-1, mostTimes)
	ends(t, l, toggles(0, 0, 3*mostTimes), 10, 11)
	// The time 0 is one, whether something changes then or not.
	ends(t, l, toggles(0, 1, mostTimes-1), api.MaxTime, mostTimes-1)
	refused(t, l, toggles(0, 1, mostTimes), api.MaxTime, api.ErrFull)
	refused(t, l, toggles(0, 1<<40, mostTimes), api.MaxTime, api.ErrFull)
	// Several changes at a time are one time.
	var both []api.Change
	for i, c := range toggles(0, 0, mostTimes+1) {
		both = append(both, c, api.Change{Time: i, Net: 1, Value: c.Value})
	}
	ends(t, l, both[:2*mostTimes], api.MaxTime, 2*mostTimes)
	refused(t, l, both, api.MaxTime, api.ErrFull)
	refused(t, l, both[:2*mostTimes+1], api.MaxTime, api.ErrFull)
	// A change of the stimulus makes a time, also if the value is the one that is there.
	still := toggles(0, 0, mostTimes+1)
	for i := range still {
		still[i].Value = "1"
	}
	ends(t, l, still[:mostTimes], api.MaxTime, 1)
	refused(t, l, still, api.MaxTime, api.ErrFull)
}

// What swings by itself: each of its changes is a time.
func TestEn1FullOfDelays(t *testing.T) {
	swing := netlist("in 1; delay@1 1 3; and 1 0 1; not 1 2 | 0 1")
	start := changes("0 0 0, 1 0 1")
	ends(t, swing, start, mostTimes-1, 2+mostTimes-1)
	refused(t, swing, start, mostTimes, api.ErrFull)
	refused(t, swing, start, api.MaxTime, api.ErrFull)
	slow := netlist("in 1; delay@1000000 1 3; and 1 0 1; not 1 2 | 0 1")
	start = changes("0 0 0, 1000001 0 1")
	ends(t, slow, start, 1000000*(mostTimes-2)+1, mostTimes)
	ends(t, slow, start, 1000000*(mostTimes-1), mostTimes)
	refused(t, slow, start, 1000000*(mostTimes-1)+1, api.ErrFull)
	// A delay and an input that change at one time.
	echo := netlist("in 1; delay@1 1 0")
	ends(t, echo, toggles(0, 0, mostTimes-1), api.MaxTime, 2*(mostTimes-1))
	refused(t, echo, toggles(0, 0, mostTimes), api.MaxTime, api.ErrFull)
	ends(t, echo, toggles(0, 0, mostTimes), mostTimes-1, 2*mostTimes-1)
}

// R2: that too much is to come is told ahead of too many times.
func TestEn1QueueAheadOfFull(t *testing.T) {
	refused(t, netlist("in 1; delay@5000 1 0"), toggles(0, 0, mostTimes+1), api.MaxTime, api.ErrQueue)
	refused(t, netlist("in 1; delay@4096 1 0"), toggles(0, 0, mostTimes+1), api.MaxTime, api.ErrFull)
	for count, want := range map[int]api.Errno{2048: api.ErrFull, 2049: api.ErrQueue} {
		l := netlist("in 1; in 1" + strings.Repeat("; delay@3 1 1", count) + "| 0 1")
		stim := toggles(0, 0, mostTimes)
		stim = append(stim, api.Change{Time: mostTimes - 1, Net: 1, Value: "0"}, api.Change{Time: mostTimes, Net: 1, Value: "1"})
		refused(t, l, stim, api.MaxTime, want)
	}
}

// As many nodes as there may be: chains of gates, and of flip-flops that are each other's clocks.
func TestEn1Large(t *testing.T) {
	chain, clocks, wide := "in 1", "in 1", "in 256"
	for i := range api.MaxNodes - 1 {
		chain += fmt.Sprintf("; not 1 %d", i)
		clocks += fmt.Sprintf("; flip 1 %d 0", i)
		wide += fmt.Sprintf("; add 256 %d %d", i, i/2)
	}
	ends(t, netlist(chain), toggles(0, 0, 200), api.MaxTime, 200*api.MaxNodes)
	// The input is up, when the first one gets it; so are all others then, one round behind the other.
	ends(t, netlist(clocks), toggles(0, 0, 200), api.MaxTime, 200+api.MaxNodes-1)
	var stim []api.Change
	for i := range 20 {
		stim = append(stim, api.Change{Time: i, Value: strings.Repeat([]string{"01", "10"}[i%2], 128)})
	}
	ends(t, netlist(wide), stim, api.MaxTime, 20*api.MaxNodes)
}

// Many nets of one node: they cost nothing, as long as none is told of.
func TestEn1ManyNets(t *testing.T) {
	l := netlist("in 1; not 1 0 | 0")
	for range 200000 {
		l.Nets = append(l.Nets, 1)
	}
	l.Ports = len(l.Nets)
	refused(t, l, toggles(0, 0, mostTimes+1), api.MaxTime, api.ErrFull)
	ends(t, l, toggles(0, 0, 5), api.MaxTime, 5*l.Ports)
}
