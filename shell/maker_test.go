package shell_test

import (
	"fmt"
	"slices"
	"strings"
)

// dice makes numbers up, always the same ones.
type dice uint32

func (d *dice) roll(n int) int {
	*d = *d*1664525 + 1013904223
	return int(*d>>8) % n
}

func (d *dice) one(list ...string) string {
	return list[d.roll(len(list))]
}

// maker makes up a module of a source that is accepted, without loops, with delays, clocks and instances.
type maker struct {
	*dice
	wides map[string]int
	ahead []string // what may be read without delay
	all   []string
}

func (m *maker) wide() int {
	return []int{1, 1, 1, 2, 2, 3, 4, 5, 9}[m.roll(9)]
}

func (m *maker) number() string {
	switch m.roll(5) {
	case 0, 1:
		return m.one("0", "1", "2", "3", "7", "`SEVEN")
	case 2:
		return m.one("1'b1", "1'bx", "2'bz1", "3'b1x0", "4'd9", "9'h1f0", "5'bx", "2'd3")
	}
	wide := 1 + m.roll(4)
	return fmt.Sprintf("%d'b", wide) + m.vector(wide)
}

func (m *maker) vector(wide int) string {
	v := ""
	for range wide {
		v += m.one("0", "1", "0", "1", "0", "1", "x", "z")
	}
	return v
}

// expr is an expression over some nets.
func (m *maker) expr(nets []string, room int) string {
	kind := m.roll(13)
	if room == 0 {
		kind %= 5
	}
	if len(nets) == 0 && kind < 7 {
		kind = 0
	}
	sub := func() string { return m.expr(nets, room-1) }
	name := ""
	if len(nets) > 0 {
		name = nets[m.roll(len(nets))]
	}
	switch kind {
	case 0:
		return m.number()
	case 1, 2, 3, 4:
		return name
	case 5:
		return name + "[" + sub() + "]"
	case 6:
		hi := m.roll(m.wides[name])
		return fmt.Sprintf("%s[%d:%d]", name, hi, m.roll(hi+1))
	case 7:
		return "{" + m.expr(nets, 0) + m.one("", ", "+m.expr(nets, 0)) + "}"
	case 8, 9:
		return m.one("~", "~", "-", "!", "&", "|", "^") + "(" + sub() + ")"
	case 10:
		return "(" + sub() + " ? " + sub() + " : " + sub() + ")"
	}
	return "(" + sub() + m.one(" + ", " - ", " << ", " >> ", " < ", " >= ", " == ", " != ", " & ", " | ", " ^ ", " && ", " || ") + sub() + ")"
}

// value is an assignment, by its sign.
func (m *maker) value(target, sign string, nets []string) string {
	return target + sign + m.expr(nets, 2) + ";\n"
}

// always assigns a reg, by a clock or without; first of all, so that it is sure.
func (m *maker) always(name, clock string) string {
	sign, nets, head := " = ", slices.Clone(m.ahead), "always @(*) begin\n"
	if clock != "" {
		sign, nets, head = " <= ", m.all, "always @(posedge "+clock+") begin\n"
	}
	out := head + m.value(name, sign, nets)
	if m.roll(2) == 0 {
		out += "if (" + m.expr(nets, 1) + ") " + m.value(name, sign, nets) + m.one("", "else "+m.value(name, sign, nets))
	}
	if m.roll(2) == 0 {
		out += "case (" + m.expr(nets, 1) + ")\n" + m.number() + ": " + m.value(name, sign, nets) + m.one("", "default: "+m.value(name, sign, nets)) + "endcase\n"
	}
	return out + "end\n"
}

// assign drives a wire, with a delay from any nets, without one from those ahead.
func (m *maker) assign(name string) string {
	delay := m.one("", "#1 ", "#2 ", "#3 ", "#7 ", "#`SEVEN ")
	if delay != "" {
		return "assign " + delay + name + " = " + m.expr(m.all, 3) + ";\n"
	}
	return "assign " + name + " = " + m.expr(m.ahead, 3) + ";\n"
}

// instance binds a wire to the output of a module part, that takes two inputs and a clock.
func (m *maker) instance(name string) string {
	clock := m.ahead[m.roll(len(m.ahead))]
	return fmt.Sprintf("part #(.N(%d)) u_%s (.c(%s), .a(%s), .b(%s), .y(%s));\n", 1+m.roll(5), name, clock, m.expr(m.all, 1), m.expr(m.all, 1), name)
}

// The source's beginning: names, and a module of which instances are made. Each way from an input of it to its output takes time, or waits for a clock.
const begins = "`define SEVEN 7\n`ifdef SIX\n) no\n`endif\nmodule part #(parameter N = 1) (input c, input [N-1:0] a, input [3:0] b, output [N:0] y);\nwire [N:0] s;\nreg [N:0] q;\nassign #(N + 1) s = a + b;\nalways @(posedge c) q <= a ^ s;\nfor (i = 0; i < N; i = i + 1) begin : g\nwire w;\nassign w = a[i];\nend\nassign #2 y = q | s;\nendmodule\n"

// port is one of the module m.
type port struct {
	name string
	wide int
	out  bool
}

// makeSource is a source of which m is the top, and its ports.
func makeSource(d *dice) (string, []port) {
	m := &maker{dice: d, wides: map[string]int{}}
	var ports []port
	for i := range 1 + m.roll(4) {
		p := port{name: fmt.Sprintf("i%d", i), wide: m.wide()}
		if i == 0 {
			p.wide = 1
		}
		ports = append(ports, p)
		m.wides[p.name] = p.wide
		m.ahead = append(m.ahead, p.name)
	}
	m.all = slices.Clone(m.ahead)
	body, nets := "", []string{}
	for i := range 3 + m.roll(6) {
		p := port{name: fmt.Sprintf("n%d", i), wide: m.wide(), out: true}
		m.wides[p.name] = p.wide
		m.all = append(m.all, p.name)
		nets = append(nets, p.name)
		if m.roll(4) == 0 {
			body += fmt.Sprintf("wire [%d:0] %s;\n", p.wide-1, p.name)
		} else {
			ports = append(ports, p)
		}
	}
	var items []string
	for _, name := range nets {
		items = append(items, m.drive(name))
		m.ahead = append(m.ahead, name)
	}
	if m.roll(2) == 0 {
		slices.Reverse(items)
	}
	return begins + "module m(" + heads(ports) + ");\n" + body + strings.Join(items, "") + "endmodule\n", ports
}

// drive is what drives a wire: now and then nothing, or by way of a reg.
func (m *maker) drive(name string) string {
	switch m.roll(12) {
	case 0:
		return ""
	case 1, 2:
		return m.instance(name)
	case 3, 4, 5:
		clock := m.one("", "i0", "i0", m.ahead[m.roll(len(m.ahead))])
		return fmt.Sprintf("reg [%d:0] r_%s;\nassign %s = r_%s;\n", m.wides[name]-1, name, name, name) + m.always("r_"+name, clock)
	}
	return m.assign(name)
}

func heads(ports []port) string {
	var out []string
	for _, p := range ports {
		side := "input "
		if p.out {
			side = "output "
		}
		if p.wide > 1 {
			side += fmt.Sprintf("[%d:0] ", p.wide-1)
		}
		out = append(out, side+p.name)
	}
	return strings.Join(out, ", ")
}

// makeSets is commands by which a design's inputs change, the first one more often, in no order.
func makeSets(d *dice, ports []port, last int) []string {
	m := &maker{dice: d}
	var out []string
	for time := range last + 1 {
		for i, p := range ports {
			if p.out || i > 0 && d.roll(3) > 0 {
				continue
			}
			v := m.vector(p.wide)
			if i == 0 && d.roll(8) > 0 {
				v = fmt.Sprint(time % 2)
			}
			out = append(out, fmt.Sprintf("set %d %s %s", time, p.name, v))
		}
	}
	for i := range out {
		k := d.roll(i + 1)
		out[i], out[k] = out[k], out[i]
	}
	return out
}

// makePasses is the words of passes behind a build.
func makePasses(d *dice) string {
	out := ""
	for range d.roll(6) {
		out += " " + d.one("dead", "fold", "share", "wire")
	}
	return out
}

// sourced is the command that makes a text the source.
func sourced(text string) string {
	return "source\n" + text + ".\n"
}
