package lower_test

import (
	"fmt"
	"reflect"
	"silkworm/api"
	"testing"
)

// Whatever the design, the stimulus and the horizon: the waveform of the netlist is that of the flat design.
func TestLw2MadeUp(t *testing.T) {
	d := dice(9)
	refused, same, looping, changes := 0, 0, 0, 0
	for i := range 2500 {
		source := makeSource(&d, i%4 == 0)
		f, why := readable(source)
		if len(why) > 0 {
			refused++
			continue
		}
		l := lowered(t, f)
		if loops(l) {
			looping++
			continue
		}
		for range 2 {
			stim := makeStimulus(&d, f)
			horizon := d.roll(25)
			flat, net := ofFlat(f).run(stim, horizon), ofNetlist(l).run(stim, horizon)
			if !reflect.DeepEqual(flat, net) {
				t.Fatalf("%s\n%v up to %d:\n%v\nnot\n%v", source, stim, horizon, net, flat)
			}
			changes += len(flat.List)
		}
		same++
	}
	if refused > 50 || same < 2000 || looping < 50 || changes < 20*same {
		t.Errorf("%d refused, %d the same, %d loops, %d changes", refused, same, looping, changes)
	}
}

// The value of a case is, for each label, what it is when it is needed as wide as that one, also beside wider labels.
func TestLw2CaseValuesMadeUp(t *testing.T) {
	d := dice(21)
	m := &maker{dice: d, wides: map[string]int{"a": 2, "b": 2, "c": 1, "d": 3}}
	head := "module m(input [1:0] a, input [1:0] b, input c, input [2:0] d, output reg [1:0] q); always @(*) "
	for range 6000 {
		x := m.sum(3)
		f := flatOf(t, head+"q = "+x+"; endmodule")
		var stim []api.Change
		for net := range 4 {
			v := ""
			for range f.Nets[net].Wide {
				v += m.one("0", "1", "0", "1", "0", "1", "x")
			}
			stim = append(stim, api.Change{Net: net, Value: v})
		}
		s := ofFlat(f)
		s.run(stim, 0)
		look := design{Flat: f, sim: s, names: map[string]int{"a": 0, "b": 1, "c": 2, "d": 3}}
		value := f.Procs[0].Body[0].Value
		wide := look.own(value) + m.roll(5)
		label := fmt.Sprintf("%d'b%s", wide, look.eval(value, wide, nil))
		source := head + fmt.Sprintf("case (%s) %d'b1: q = 2; %s: q = 1; %d'bz: q = 2; default: q = 0; endcase endmodule", x, wide+1+m.roll(4), label, wide+1+m.roll(4))
		g := flatOf(t, source)
		want := ofFlat(g)
		want.run(stim, 0)
		got := ofNetlist(lowered(t, g))
		got.run(stim, 0)
		if !reflect.DeepEqual(got.portValues(), want.portValues()) {
			t.Fatalf("%s of %v: %v, not %v", source, stim, got.portValues(), want.portValues())
		}
	}
}

// sum is an expression whose parts mostly are as wide as it is needed.
func (m *maker) sum(room int) string {
	kind := m.roll(8)
	if room == 0 {
		kind = m.roll(2)
	}
	sub := func() string { return m.sum(room - 1) }
	switch kind {
	case 0:
		return m.one("a", "b", "c", "d")
	case 1:
		return m.one("a", "b", "1'b1", "2'b11", "2'b10", "(a < b)", "{c, a}", "d[1:0]")
	case 2:
		return m.one("~", "-") + "(" + sub() + ")"
	case 3:
		return "(" + m.one("a", "c", "b[0]") + " ? " + sub() + " : " + sub() + ")"
	case 4:
		return "(" + sub() + m.one(" << ", " >> ") + m.one("1", "2", "a", "c") + ")"
	}
	return "(" + sub() + m.one(" + ", " + ", " - ", " & ", " | ", " ^ ") + sub() + ")"
}
