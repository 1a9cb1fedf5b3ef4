package engine_test

import (
	"strings"
	"testing"
)

// A clock rises by layer 1's Rise, by its lowest bit alone; what is then put in is what the data is then.
func TestEn1Rises(t *testing.T) {
	rises := " 01 0x 0z x1 z1 "
	for _, was := range []string{"0", "1", "x", "z"} {
		for _, is := range []string{"0", "1", "x", "z"} {
			q := map[string]string{"0": "x", "1": "0", "x": "x", "z": "x"}[was]
			text := "x x x | "
			if was != "x" {
				text += "0 0 " + was + ", "
			}
			text += "0 1 0, "
			if q == "0" {
				text += "0 2 0, "
			}
			if was != is {
				text += "2 0 " + is + ", "
			}
			text += "2 1 1"
			if strings.Contains(rises, " "+was+is+" ") {
				text += ", 2 2 1"
			}
			stim := "0 0 " + was + ", 0 1 0, 2 0 " + is + ", 2 1 1"
			tells(t, netlist("in 1; in 1; flip 1 0 1"), changes(stim), 5, text)
			// The other bits of a clock go up, too: that is nothing.
			low := netlist("in 3; in 1; flip 1 0 1")
			w := run(t, low, changes("0 0 00"+was+", 0 1 0, 2 0 z1"+is+", 2 1 1"), 5)
			if got, want := w.List[len(w.List)-1].Net == 2, strings.Contains(rises, " "+was+is+" "); got != want {
				t.Errorf("%s to %s: %v", was, is, w.List)
			}
			again(t, low, changes("0 0 00"+was+", 0 1 0, 2 0 z1"+is+", 2 1 1"), 5)
		}
	}
}

func TestEn1Flips(t *testing.T) {
	flip := netlist("in 1; in 1; flip 1 0 1")
	// The data that comes together with the rise counts; what comes between two of them does not.
	tells(t, flip, changes("0 0 0, 0 1 1, 1 0 1, 2 0 0, 2 1 z, 3 0 1, 3 1 0, 4 1 1, 5 0 0"), 9,
		"x x x | 0 0 0, 0 1 1, 1 0 1, 1 2 1, 2 0 0, 2 1 z, 3 0 1, 3 1 0, 3 2 0, 4 1 1, 5 0 0")
	tells(t, flip, changes("0 0 1, 0 1 0"), 9, "x x x | 0 0 1, 0 1 0, 0 2 0")
	// Data that is gone through by gates follows ahead of the rise.
	tells(t, netlist("in 1; not 1 0; not 1 1; flip 1 0 2; flip 1 0 1"), changes("0 0 0, 1 0 1, 2 0 0, 3 0 1"), 9,
		"x x x x x | 0 0 0, 0 1 1, 0 2 0, 1 0 1, 1 1 0, 1 2 1, 1 3 1, 1 4 0, 2 0 0, 2 1 1, 2 2 0, 3 0 1, 3 1 0, 3 2 1")
	// A chain of flip-flops moves by one.
	tells(t, netlist("in 1; in 1; flip 1 0 1; flip 1 0 2; flip 1 0 3 | 0 1 4 3 2"), changes("0 0 0, 0 1 1, 1 0 1, 2 0 0, 2 1 0, 3 0 1, 4 0 0, 5 0 1"), 9,
		"x x x x x | 0 0 0, 0 1 1, 1 0 1, 1 4 1, 2 0 0, 2 1 0, 3 0 1, 3 3 1, 3 4 0, 4 0 0, 5 0 1, 5 2 1, 5 3 0")
	// Two that take each other's value.
	swap := netlist("in 1; in 1; const 1; const 0; flip 1 0 6; flip 1 0 7; cond 1 1 2 5; cond 1 1 3 4 | 0 1 4 5")
	tells(t, swap, changes("0 0 0, 0 1 1, 1 0 1, 2 0 0, 2 1 0, 3 0 1, 4 0 0, 5 0 1"), 9,
		"x x x x | 0 0 0, 0 1 1, 1 0 1, 1 2 1, 1 3 0, 2 0 0, 2 1 0, 3 0 1, 3 2 0, 3 3 1, 4 0 0, 5 0 1, 5 2 1, 5 3 0")
	// A clock that is its own data, or its own delay's.
	tells(t, netlist("in 1; flip 1 0 0; delay@1 1 0; flip 1 2 0"), changes("0 0 0, 1 0 1, 3 0 z"), 9,
		"x x x x | 0 0 0, 1 0 1, 1 1 1, 1 2 0, 2 2 1, 2 3 1, 3 0 z, 4 2 z")
}

// A flip-flop that is another one's clock: it rises a round later, and then sees what the round ahead made.
func TestEn1Rounds(t *testing.T) {
	tells(t, netlist("in 1; in 1; flip 1 0 1; flip 1 2 4; flip 1 0 5; not 1 1 | 0 1 2 3 4"), changes("0 0 0, 0 1 0, 1 0 1, 2 0 0, 2 1 1, 3 0 1"), 9,
		"x x x x x | 0 0 0, 0 1 0, 1 0 1, 1 2 0, 1 4 1, 2 0 0, 2 1 1, 3 0 1, 3 2 1, 3 3 0, 3 4 0")
	// A counter each bit of which is the next one's clock: all fall within one time.
	ripple := netlist("in 1; in 1; flip 1 0 4; not 1 2; and 1 3 1; flip 1 3 7; not 1 5; and 1 6 1; flip 1 6 10; not 1 8; and 1 9 1 | 0 1 2 5 8")
	tells(t, ripple, changes("0 0 0, 0 1 0, 1 0 1, 2 0 0, 2 1 1, 3 0 1, 4 0 0, 5 0 1, 6 0 0, 7 0 1, 8 0 0, 9 0 1"), 9,
		"x x x x x | 0 0 0, 0 1 0, 1 0 1, 1 2 0, 1 3 0, 1 4 0, 2 0 0, 2 1 1, 3 0 1, 3 2 1, 4 0 0, 5 0 1, 5 2 0, 5 3 1, 6 0 0, 7 0 1, 7 2 1, 8 0 0, 9 0 1, 9 2 0, 9 3 0, 9 4 1")
	// A clock that is up for one round alone: it rises, no net tells of it, and no delay sends it.
	short := netlist("in 1; in 1; flip 1 0 1; not 1 2; and 1 0 3; in 1; flip 1 4 5; delay@1 1 4")
	tells(t, short, changes("0 0 0, 0 1 0, 0 5 0, 1 0 1, 2 0 0, 2 1 1, 2 5 1, 3 0 1"), 9,
		"x x x x x x x x | 0 0 0, 0 1 0, 0 4 0, 0 5 0, 1 0 1, 1 2 0, 1 3 1, 1 4 1, 1 6 0, 1 7 0, 2 0 0, 2 1 1, 2 4 0, 2 5 1, 2 7 1, 3 0 1, 3 2 1, 3 3 0, 3 6 1, 3 7 0")
	// A clock that rises twice within a time: by the first flip-flop it falls, by the second one it rises again. A counter goes on by two.
	twice := netlist("in 1; in 1; in 1; in 1; flip 1 0 2; flip 1 4 3; xor 1 0 4; xor 1 6 5; flip 2 7 9; cond 2 1 10 11; const 00; add 2 8 12; const 01 | 0 1 2 3 4 5 7 8")
	tells(t, twice, changes("0 0 0, 0 1 1, 0 2 1, 0 3 0, 1 0 1, 2 0 0, 2 2 0, 3 0 1, 4 0 0, 4 1 0, 4 2 1, 4 3 1, 5 0 1"), 8,
		"x x x x x x x xx | 0 0 0, 0 1 1, 0 2 1, 0 3 0, 1 0 1, 1 4 1, 1 5 0, 1 6 0, 2 0 0, 2 2 0, 2 6 1, 2 7 00, 3 0 1, 3 4 0, 4 0 0, 4 1 0, 4 2 1, 4 3 1, 4 6 0, 5 0 1, 5 4 1, 5 5 1, 5 6 1, 5 7 10")
}
