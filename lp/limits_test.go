package lp_test

import (
	"fmt"
	"silkworm/api"
	"silkworm/lp"
	"strings"
	"testing"
)

// toggles is changes of the net 0, one a time, from 0 on.
func toggles(count int) []api.Change {
	var list []api.Change
	for i := range count {
		list = append(list, api.Change{Time: i, Value: []string{"0", "1"}[i%2]})
	}
	return list
}

// goes lets a process go through the times 0 to count - 1.
func goes(t *testing.T, x *lp.Process, count int) {
	t.Helper()
	for i := range count {
		steps(t, x, i)
	}
}

// stuck tells that a process would have too many events, and that nothing has changed.
func stuck(t *testing.T, x *lp.Process, time int) {
	t.Helper()
	done, count := x.Done(), len(x.Changes(0))
	for range 2 {
		next(t, x, time)
		if out, e := x.Step(); e != api.ErrQueue || len(out) > 0 || x.Done() != done || len(x.Changes(0)) != count {
			t.Fatalf("Step: %v, %d, done %d, %d changes; it was %d, %d", out, e, x.Done(), len(x.Changes(0)), done, count)
		}
	}
	next(t, x, time)
}

// Just so many events are there that the limit lets, all of them its own.
func TestLp1ManyOwn(t *testing.T) {
	l := netlist("in 1; delay@1048576 1 0; delay@1 1 0")
	p := parts(l, "0 0 1")
	for _, horizon := range []int{5000, 1 << 20, api.MaxTime} {
		x := process(t, l, p, 0, toggles(api.MaxQueue+1), horizon)
		for i := range api.MaxQueue {
			steps(t, x, i, ev(i+1, 2, []string{"0", "1"}[i%2], 0, 2*i+2))
		}
		stuck(t, x, api.MaxQueue)
		y := x.Copy()
		stuck(t, y, api.MaxQueue)
	}
	// One fewer.
	x := process(t, l, p, 0, toggles(api.MaxQueue), api.MaxTime)
	for range api.MaxQueue {
		x.Step()
	}
	steps(t, x, 1<<20)
	tells(t, x, 1<<20, "1048576 1 0")
}

// What is gone through at a time makes room for what comes of it.
func TestLp1Room(t *testing.T) {
	l := netlist("in 1; delay@4096 1 0")
	x := process(t, l, parts(l, "0 0"), 0, toggles(9000), 20000)
	goes(t, x, 13096)
	rests(t, x)
	l = netlist("in 1; delay@4097 1 0")
	x = process(t, l, parts(l, "0 0"), 0, toggles(9000), 20000)
	goes(t, x, 4096)
	stuck(t, x, 4096)
}

// Events of others count with its own, in Take and in Step. If one is taken back, it goes on.
func TestLp2ManyOthers(t *testing.T) {
	l := netlist("in 1; delay@9 1 0; in 1; delay@9999 1 2; delay@9999 1 2")
	stim := []api.Change{{Time: 5, Net: 2, Value: "1"}}
	x := process(t, l, parts(l, "0 1 1 1 1"), 1, stim, 30000)
	steps(t, x, 0)
	for i := range api.MaxQueue - 1 {
		takes(t, x, ev(10+i, 1, "1", 0, i), api.OK)
	}
	stuck(t, x, 5)
	takes(t, x, ev(6, 1, "1", 0, 9000), api.OK)
	takes(t, x, ev(6, 1, "1", 0, 9001), api.ErrQueue)
	takes(t, x, ev(api.MaxTime, 1, "1", 0, 9001), api.ErrQueue)
	takes(t, x, ev(api.MaxTime+1, 1, "1", 0, 9001), api.ErrTime)
	takes(t, x, ev(6, 1, "1", 0, 9000), api.ErrArg)
	takes(t, x, ev(0, 1, "1", 0, 9001), api.ErrStage)
	stuck(t, x, 5)
	cancels(t, x, 0, 9000, true)
	stuck(t, x, 5)
	y := x.Copy()
	cancels(t, x, 0, 7, true)
	steps(t, x, 5)
	takes(t, x, ev(7, 1, "1", 0, 7), api.ErrQueue)
	steps(t, x, 10)
	takes(t, x, ev(11, 1, "1", 0, 7), api.OK)
	takes(t, x, ev(11, 1, "1", 0, 0), api.ErrQueue)
	stuck(t, y, 5)
	for range api.MaxQueue - 4 {
		x.Step()
	}
	next(t, x, 10+api.MaxQueue-2)
	x.Step()
	steps(t, x, 5+9999)
	rests(t, x)
	tells(t, x, 0, "5 2 1, 10 1 1, 10004 3 1, 10004 4 1")
}

// What was due is still there, if the time is refused.
func TestLp1RefusedDue(t *testing.T) {
	l := netlist("in 1; delay@9 1 0; delay@9999 1 1; delay@9999 1 1")
	x := process(t, l, parts(l, "0 1 1 1"), 1, nil, 30000)
	steps(t, x, 0)
	for i := range api.MaxQueue {
		takes(t, x, ev(10+i/3, 1, "1", 0, i), api.OK)
	}
	cancels(t, x, 0, 100, true)
	cancels(t, x, 0, 101, true)
	takes(t, x, ev(3, 1, "1", 0, 100), api.OK)
	takes(t, x, ev(4, 1, "1", 0, 101), api.OK)
	stuck(t, x, 3)
	takes(t, x, ev(5, 1, "1", 0, 9000), api.ErrQueue)
	takes(t, x, ev(5, 1, "1", 0, 100), api.ErrArg)
	y := x.Copy()
	cancels(t, y, 0, 100, true)
	cancels(t, y, 0, 100, false)
	steps(t, y, 4)
	cancels(t, x, 0, 9, true)
	steps(t, x, 3)
	steps(t, x, 4)
	cancels(t, x, 0, 0, true)
	cancels(t, x, 0, 1, true)
	cancels(t, x, 0, 2, true)
	steps(t, x, 11)
	tells(t, x, 0, "3 1 1")
	tells(t, y, 0, "4 1 1")
}

// A number is not used up by what is refused.
func TestLp1RefusedNumbers(t *testing.T) {
	l := netlist("in 1; delay@9 1 0; in 1; delay@1 1 2; delay@9999 1 2")
	stim := []api.Change{{Time: 5, Net: 2, Value: "1"}, {Time: 6, Net: 2, Value: "0"}}
	x := process(t, l, parts(l, "0 1 1 0 1"), 1, stim, 30000)
	steps(t, x, 0)
	for i := range api.MaxQueue - 1 {
		takes(t, x, ev(10+i, 1, "1", 0, i), api.OK)
	}
	steps(t, x, 5, ev(6, 3, "1", 1, 1))
	stuck(t, x, 6)
	cancels(t, x, 0, 3, true)
	steps(t, x, 6, ev(7, 3, "0", 1, 3))
}

// Events for others are as many as there may be delays; the queue has nothing to do with them.
func TestLp1ManyForOthers(t *testing.T) {
	l := api.Netlist{Nodes: []api.Node{{Kind: api.NdIn, Wide: 1}}, Nets: []int{0}, Ports: 1}
	var of []int
	var want []api.Event
	for i := range api.MaxNodes {
		of = append(of, min(i, 1))
		if i > 0 {
			l.Nodes = append(l.Nodes, api.Node{Kind: api.NdDelay, Wide: 1, Ins: []int{0}, Time: i})
			want = append(want, ev(i, i, "1", 0, i))
		}
	}
	x := process(t, l, withAhead(l, of), 0, changes("0 0 1"), 9)
	steps(t, x, 0, want...)
	rests(t, x)
	y := process(t, l, withAhead(l, of), 1, changes("0 0 1"), api.MaxTime)
	for _, e := range want {
		takes(t, y, e, api.OK)
	}
	goes(t, y, api.MaxNodes)
	rests(t, y)
}

// Times about the last one that there is: nothing comes behind it.
func TestLp1FarTimes(t *testing.T) {
	const last = api.MaxTime
	l := netlist("in 1; delay@1 1 0; delay@1048576 1 0; delay@1 1 0; delay@1048576 1 0")
	stim := []api.Change{{Time: last - 1<<20, Value: "0"}, {Time: last - 1<<20 + 1, Value: "1"}, {Time: last - 1, Value: "0"}, {Time: last, Value: "z"}}
	x := process(t, l, parts(l, "0 0 0 1 1"), 0, stim, last)
	steps(t, x, 0)
	steps(t, x, last-1<<20, ev(last-1<<20+1, 3, "0", 0, 3), ev(last, 4, "0", 0, 4))
	if out, e := x.Step(); e != api.OK || len(out) != 1 || out[0].Time != last-1<<20+2 || out[0].Value != "1" {
		t.Error(out, e)
	}
	steps(t, x, last-1<<20+2)
	if out, e := x.Step(); e != api.OK || len(out) != 1 || out[0].Time != last || out[0].Value != "0" {
		t.Error(out, e)
	}
	steps(t, x, last)
	rests(t, x)
	y := process(t, l, parts(l, "0 0 0 1 1"), 1, stim, last)
	steps(t, y, 0)
	takes(t, y, ev(last, 4, "0", 0, 4), api.OK)
	takes(t, y, ev(last+1, 4, "1", 0, 6), api.ErrTime)
	takes(t, y, ev(most, 4, "1", 0, 6), api.ErrTime)
	steps(t, y, last)
	takes(t, y, ev(last, 4, "1", 0, 6), api.ErrStage)
	takes(t, y, ev(last+1, 4, "1", 0, 6), api.ErrTime)
	rests(t, y)
	if c := y.Changes(last); len(c) != 1 || c[0] != (api.Change{Time: last, Net: 4, Value: "0"}) {
		t.Error(c)
	}
}

// What comes behind the horizon is sent, but not gone through.
func TestLp1BehindHorizon(t *testing.T) {
	x := of(t, "in 1; delay@2 1 0; delay@2 1 0", "0 1 0", 0, "3 0 1, 5 0 0", 4)
	steps(t, x, 0)
	steps(t, x, 3, ev(5, 1, "1", 0, 1))
	rests(t, x)
	tells(t, x, 0, "3 0 1")
	x = of(t, "in 1; delay@2 1 0; delay@2 1 0", "0 1 0", 0, "3 0 1, 5 0 0", 5)
	steps(t, x, 0)
	steps(t, x, 3, ev(5, 1, "1", 0, 1))
	steps(t, x, 5, ev(7, 1, "0", 0, 3))
	rests(t, x)
	tells(t, x, 0, "3 0 1, 5 0 0, 5 2 1")
}

// Values as wide as may be.
func TestLp1Wide(t *testing.T) {
	wide := func(bits string) string { return strings.Repeat(bits, api.MaxWide/len(bits)) }
	l := netlist("in 256; not 256 0; delay@1 256 1; not 256 2")
	p := parts(l, "0 0 1 1")
	x := process(t, l, p, 0, []api.Change{{Time: 1, Value: wide("01xz")}}, 9)
	steps(t, x, 0)
	e := api.Event{Time: 2, Node: 2, Value: wide("10xx"), From: 0, Seq: 1}
	steps(t, x, 1, e)
	y := process(t, l, p, 1, nil, 9)
	takes(t, y, api.Event{Time: 2, Node: 2, Value: wide("10xx")[1:], From: 0, Seq: 1}, api.ErrArg)
	takes(t, y, api.Event{Time: 2, Node: 2, Value: wide("10xx") + "0", From: 0, Seq: 1}, api.ErrArg)
	takes(t, y, e, api.OK)
	steps(t, y, 0)
	steps(t, y, 2)
	if c := y.Changes(0); len(c) != 2 || c[0].Value != e.Value || c[1].Value != wide("01xx") {
		t.Error(c)
	}
}

// As many parts as there may be, one behind the other.
func TestLp1ManyParts(t *testing.T) {
	text, of := "in 1", []int{0}
	for k := range api.MaxParts - 1 {
		text += fmt.Sprintf("; delay@%d 1 %d; not 1 %d", 1+k%3, 2*k, 2*k+1)
		of = append(of, k+1, k+1)
	}
	l := netlist(text)
	p := withAhead(l, of)
	d := dice(9)
	if c, n := inFull(t, &d, l, p, changes("0 0 1, 3 0 0, 4 0 x"), 200); p.N != api.MaxParts || c < 300 || n < 150 {
		t.Error(p.N, c, n)
	}
}
