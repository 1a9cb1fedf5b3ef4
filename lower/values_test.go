package lower_test

import (
	"fmt"
	"reflect"
	"silkworm/api"
	"strings"
	"testing"
)

// wideHead is that of a module with inputs of the widths that some labels have, too.
func wideHead(from, labels int) string {
	head := "module m(input [1:0] a, input [1:0] b, input c, input [2:0] d, input [9:0] e, output reg [7:0] q"
	for i := range labels {
		head += fmt.Sprintf(", input [%d:0] l%d", from+i-1, i)
	}
	return head + "); always @(*) "
}

// seenBits is a vector of inputs: most of its bits are known, mostly.
func (m *maker) seenBits(wide int) string {
	v := ""
	for range wide {
		v += m.one("0", "1")
	}
	switch m.roll(5) {
	case 0:
		i := m.roll(wide)
		v = v[:i] + m.one("x", "z") + v[i+1:]
	case 1:
		v = strings.Repeat(m.one("0", "1", "x", "z"), wide)
	case 2, 3:
		v = strings.Repeat("0", wide/2) + v[wide/2:]
	}
	return v
}

// chain is a value of many parts, joined by signs that bind as tightly.
func (m *maker) chain(room int) string {
	sub := func() string {
		if room == 0 || m.roll(3) > 0 {
			return m.one("a", "b", "c", "d", "2'b10", "d[1:0]", "{c, a}", "~a", "-d", "~c")
		}
		return "(" + m.chain(room-1) + ")"
	}
	amount := func() string {
		return m.one("1", "2", "a", "b", "c", "c", "a", "e", "d[0]", "(a < b)", "2'bx0", "300")
	}
	signs := [][]string{{" >> "}, {" >> ", " << "}, {" + ", " - "}, {" & "}, {" | "}, {" ^ "}}[m.roll(6)]
	out := sub()
	for range 1 + m.roll(14) {
		sign := m.one(signs...)
		switch {
		case strings.Contains(" >> << ", sign):
			out += sign + amount()
		case m.roll(3) == 0:
			out += sign + "(" + sub() + m.one(" >> ", " >> ", " << ") + m.one("a", "c", amount()) + ")"
		default:
			out += sign + sub()
		}
	}
	return m.one("", "", "~", "-") + "(" + out + ")"
}

// compared runs a case's value x at one of some labels' widths, time by time, which is set to what the flat design has there.
func compared(t *testing.T, m *maker, x string, labels, turns int) {
	t.Helper()
	f := flatOf(t, wideHead(1, 0)+"q = "+x+"; endmodule")
	look := design{Flat: f, sim: ofFlat(f), names: map[string]int{"a": 0, "b": 1, "c": 2, "d": 3, "e": 4}}
	value := f.Procs[0].Body[0].Value
	own := look.own(value)
	g := flatOf(t, wideHead(own, labels)+"case ("+x+") "+times(labels, "l%: q = % + 1; ")+"default: q = 0; endcase endmodule")
	var stim []api.Change
	for time := range turns {
		look.begin()
		for net := range 5 {
			v := m.seenBits(f.Nets[net].Wide)
			look.put(net, v)
			stim = append(stim, api.Change{Time: time, Net: net, Value: v})
		}
		hit := m.roll(labels)
		for i := range labels {
			v := strings.Repeat("z", own+i)
			if i == hit {
				v = look.eval(value, own+i, nil)
			}
			stim = append(stim, api.Change{Time: time, Net: 6 + i, Value: v})
		}
	}
	flat, net := ofFlat(g).run(stim, turns), ofNetlist(lowered(t, g)).run(stim, turns)
	if !reflect.DeepEqual(flat, net) {
		t.Fatalf("%s, %d labels from %d on, under %v:\n%v\nnot\n%v", x, labels, own, stim, net.List, flat.List)
	}
}

// A value of many parts is, for each label of many widths, what it is when it is needed as wide as that one.
func TestLw2ManyWidthsMadeUp(t *testing.T) {
	m := &maker{dice: dice(33)}
	for range 160 {
		compared(t, m, m.chain(2), 2+m.roll(30), 8)
	}
}

// Chains of one kind, with parts that can and parts that can't be cut.
func TestLw2ManyWidths(t *testing.T) {
	m := &maker{dice: dice(34)}
	for _, x := range []string{
		"a >> b >> c", "a >> e >> 1", "d >> c >> a >> b", "d >> c << a >> b", "a >> (a < b) >> c", "a" + times(30, " >> c"), "~a" + times(30, " >> c"), "a" + times(20, " >> c << c"), "-d" + times(20, " << a >> b"), "a - b" + times(15, " >> a >> e << c"),
		"(a - b >> c)" + times(20, " << c"), "(~d >> c)" + times(12, " << c << a << 1'b0 >> c"), "~d" + times(15, " >> (c ^ a[0])"),
		"a" + times(20, " >> 1'bx >> c"), "~a" + times(20, " >> c") + " >> 2'bz1" + times(5, " >> a"), "~d >> 1'bx" + times(20, " << c >> 1"), "~d" + times(20, " >> 0") + " >> a",
		"(~a >> b)" + times(20, " + (~a >> b)"), "(~a >> b)" + times(9, " - (~a >> b) + d"), "a - (~a >> b)" + times(9, " + a - (~d >> c)"), "(~a >> c) - (~a >> c)", "-(~a >> c) - b",
		"~a >> b" + times(20, " | ~a >> b"), "~a >> b" + times(20, " ^ ~d >> b"), "~a >> b" + times(20, " & ~d >> c & d"), "(~a >> b ^ d)" + times(3, " ^ (~a >> b ^ d)"), "(-a >> b) - c" + times(4, " ^ (-a >> b) - c"), "(-a >> b) - c" + times(4, " | (-a >> b) - c"), "(-a >> b) - c & (-a >> b) - c", "~a >> b << c" + times(5, " | ~d >> b << c") + " | ~a >> d << c", "~d >> b << c" + times(5, " & ~d >> b << b"), "~a >> b ^ ~a >> b", "~a >> b ^ ~a >> b ^ ~a >> b",
		"(d << b >> c) | (d << b >> c)", "(d << b >> c) & (d << b >> c) & (d << b >> c)", "(d << b >> c) ^ (d << b >> c) ^ (d << b >> c)", "(~a >> b) & d | ~(~a >> c)", "c ? ~a >> b : d", "(c ? ~a : d) >> b", "~(~a >> b) + 1'b1", "(a & -d) + b", "(a & -d >> 1) + b", "(a | ~d) + b", "-(-a)", "d + (a >> b) + (a >> b)", "(a >> 1 >> b) + d", "((a + d) >> b) + d", "((a << b) >> b) + d",
		"(a << 9) >> 9", "(a ^ -d) + b", "(c ? a : d) + b", "(c ? ~a : d) + b", "-(a >> b) >> b", "a >> (a + b) << e >> e",
	} {
		compared(t, m, x, 30, 25)
		compared(t, m, x, 3, 10)
		compared(t, m, "("+x+") ^ a", 12, 10)
	}
}

func TestLw1SmallValuesOfMoreWidths(t *testing.T) {
	for _, unit := range []string{"-(~a >> c)", "~(a + d >> c)", "((~a >> c) + d >> c)", "(c ? ~a >> c : d)", "(~a >> c << d)", "(~a >> c << d >> 1)", "(~a >> (c + d))", "~(-d >> a[c])"} {
		for _, sign := range []string{" + ", " - ", " & ", " | ", " ^ "} {
			n := 180 / (strings.Count(unit, " ") + 5)
			small(t, unit+sign, "module m(input c, input [1:0] a, input [2:0] d, output reg q); always @(posedge c) case ("+joined(n, sign, unit)+") "+many(200)+"default: q <= 1; endcase endmodule")
		}
	}
}

// many is labels of as many widths, from 2 on.
func many(n int) string {
	out := ""
	for i := range n {
		out += fmt.Sprintf("%d'd0: begin end ", i+2)
	}
	return out
}

func TestLw1SmallValuesOfManyWidths(t *testing.T) {
	for what, x := range map[string]string{
		"shifts": "a" + times(169, " >> c"), "of what is below nought": "-a" + times(169, " >> c"), "both ways": "~a" + times(84, " << c >> a"), "by expressions": "~c" + times(42, " >> (c + a[1]) << d"),
		"by numbers": "~a" + times(169, " >> 1"), "a sum of them": "(a >> c)" + times(84, " + (a >> c)"), "of others": "(~a >> c)" + times(67, " - (~a >> c)"), "a sum beside one": "(~a >> c)" + times(165, " + d"),
		"bits": "(~a >> c)" + times(165, " & d"), "bits of them": "~a >> c" + times(67, " | ~a >> c"), "bits of sums": "a + d >> c" + times(50, " ^ a + d >> c"), "one in another": nested(30, "(", "~a", " >> c) + d"),
		"signs of them": "~(~a >> c)" + times(55, " | ~(~a >> c)"), "with signs": nested(15, "~(", "~a", " >> c >> c >> c)"), "choices": nested(29, "c ? ~a >> c : ", "d", ""), "all": "((~a >> c >> d) + c - a << a >> a" + times(30, " >> c") + ") + a - d" + times(40, " | a"),
	} {
		for _, labels := range []int{20, 40, 55} {
			small(t, what, "module m(input c, input [1:0] a, input [2:0] d, output reg q); always @(posedge c) case ("+x+") "+many(labels)+"default: q <= 1; endcase endmodule")
		}
	}
}
