package lower_test

import (
	"fmt"
	"silkworm/api"
	"slices"
	"strings"
)

// maker makes up sources that are accepted. A loose one lets nets hang on any others now and then, themselves too.
type maker struct {
	dice
	loose bool
	wides map[string]int
	ahead []string // what a process without delay and clock may read
	all   []string
}

// region is a point of an always: its targets, and which of them are sure.
type region struct {
	sign    string
	targets []string
	sure    []string
	deep    int
}

func (m *maker) wide() int {
	return []int{1, 1, 1, 2, 2, 3, 4, 5, 33}[m.roll(9)]
}

func (m *maker) number() string {
	switch m.roll(6) {
	case 0, 1:
		return m.one("0", "1", "2", "3", "7")
	case 2:
		return m.one("1'b1", "1'bx", "2'bz1", "3'b1x0", "4'd9", "33'b1", "5'bx", "2'd3")
	}
	wide := 1 + m.roll(4)
	v := fmt.Sprintf("%d'b", wide)
	for range wide {
		v += m.one("0", "1", "0", "1", "0", "1", "x", "z")
	}
	return v
}

// expr is an expression over some nets.
func (m *maker) expr(nets []string, room int) string {
	kind := m.roll(14)
	if room == 0 {
		kind %= 5
	}
	if len(nets) == 0 && kind > 0 && kind < 7 {
		kind = 0
	}
	sub := func() string { return m.expr(nets, room-1) }
	name := ""
	if len(nets) > 0 {
		name = nets[m.roll(len(nets))]
	}
	switch kind {
	case 0:
		return m.number()
	case 1, 2, 3, 4:
		return name
	case 5:
		return name + "[" + sub() + "]"
	case 6:
		hi := m.roll(m.wides[name])
		return fmt.Sprintf("%s[%d:%d]", name, hi, m.roll(hi+1))
	case 7:
		return "{" + sub() + m.one("", ", "+sub()) + "}"
	case 8, 9:
		return m.one("~", "~", "-", "-", "!", "&", "|", "^") + "(" + sub() + ")"
	case 10:
		return "(" + sub() + " ? " + sub() + " : " + sub() + ")"
	}
	return "(" + sub() + m.one(" + ", " + ", " - ", " << ", " >> ", " >> ", " < ", " <= ", " > ", " >= ", " == ", " != ", " & ", " & ", " | ", " ^ ", " && ", " || ") + sub() + ")"
}

// fitting is an expression that is not wider than a vector may be.
func (m *maker) fitting(nets []string, room int) string {
	for {
		if x := m.expr(nets, room); strings.Count(x, "33")+strings.Count(x, "{")*strings.Count(x, "[") < 7 {
			return x
		}
	}
}

// sources is the nets that a process may read.
func (m *maker) sources() []string {
	if m.loose && m.roll(3) == 0 {
		return m.all
	}
	return m.ahead
}

// value is an expression of an always.
func (m *maker) value(r *region) string {
	if r.sign == "<=" {
		return m.fitting(m.all, 3)
	}
	var nets []string
	for _, n := range m.sources() {
		if !slices.Contains(r.targets, n) {
			nets = append(nets, n)
		}
	}
	return m.fitting(append(nets, r.sure...), 3)
}

func (m *maker) stmts(r *region, n int) string {
	out := ""
	for range n {
		out += m.stmt(r)
	}
	return out
}

func (r *region) within() *region {
	in := *r
	in.sure = slices.Clone(r.sure)
	in.deep++
	return &in
}

// both is what is sure in all of some places.
func both(l ...*region) []string {
	var out []string
	for _, n := range l[0].sure {
		if !slices.ContainsFunc(l, func(r *region) bool { return !slices.Contains(r.sure, n) }) {
			out = append(out, n)
		}
	}
	return out
}

func (m *maker) set(r *region, name string) string {
	out := name + " " + r.sign + " " + m.value(r) + ";\n"
	if !slices.Contains(r.sure, name) {
		r.sure = append(r.sure, name)
	}
	return out
}

func (m *maker) stmt(r *region) string {
	kind := m.roll(5)
	if r.deep == 3 {
		kind = 0
	}
	switch kind {
	case 3:
		out := "if (" + m.value(r) + ") begin\n"
		yes, no := r.within(), r.within()
		out += m.stmts(yes, m.roll(3)) + "end\n"
		if m.roll(2) == 0 {
			out += "else begin\n" + m.stmts(no, m.roll(3)) + "end\n"
		}
		r.sure = both(yes, no)
		return out
	case 4:
		out := "case (" + m.value(r) + ")\n"
		var arms []*region
		for range m.roll(5) {
			label := m.one(m.number(), m.value(r))
			arms = append(arms, r.within())
			out += label + ": begin\n" + m.stmts(arms[len(arms)-1], m.roll(3)) + "end\n"
		}
		if arms = append(arms, r.within()); m.roll(2) == 0 {
			out += "default: begin\n" + m.stmts(arms[len(arms)-1], m.roll(3)) + "end\n"
		}
		r.sure = both(arms...)
		return out + "endcase\n"
	}
	return m.set(r, r.targets[m.roll(len(r.targets))])
}

// always is one with statements; without a clock all that is not sure is set at its end, or all at its beginning.
func (m *maker) always(targets []string, clock string) string {
	r := &region{sign: "<=", targets: targets}
	if clock != "" {
		out := "always @(posedge " + clock + ") begin\n"
		for _, n := range targets {
			out += m.one("", m.set(r, n))
		}
		return out + m.stmts(r, 1+m.roll(3)) + m.set(r, targets[0]) + m.stmts(r, m.roll(2)) + "end\n"
	}
	r.sign = "="
	out := "always @(*) begin\n"
	if m.roll(2) == 0 {
		for _, n := range targets {
			out += m.set(r, n)
		}
	}
	out += m.stmts(r, 1+m.roll(3))
	for _, n := range targets {
		if !slices.Contains(r.sure, n) {
			out += m.set(r, n)
		}
	}
	return out + m.stmts(r, m.roll(2)) + "end\n"
}

// declare makes nets up: a head's ports, and other ones.
func (m *maker) declare() (head, body string, wires, regs []string) {
	var ports []string
	for i := range 1 + m.roll(4) {
		name, wide := fmt.Sprintf("i%d", i), m.wide()
		if i == 0 {
			wide = 1
		}
		m.wides[name] = wide
		m.ahead = append(m.ahead, name)
		ports = append(ports, fmt.Sprintf("input [%d:0] %s", wide-1, name))
	}
	m.all = slices.Clone(m.ahead)
	for i := range 2 + m.roll(7) {
		name, wide, kind := fmt.Sprintf("n%d", i), m.wide(), m.one("wire", "reg")
		m.wides[name] = wide
		m.all = append(m.all, name)
		switch {
		case m.roll(3) == 0:
			body += fmt.Sprintf("%s [%d:0] %s;\n", kind, wide-1, name)
		case kind == "wire":
			ports = append(ports, fmt.Sprintf("output [%d:0] %s", wide-1, name))
		default:
			ports = append(ports, fmt.Sprintf("output reg [%d:0] %s", wide-1, name))
		}
		if kind == "wire" {
			wires = append(wires, name)
		} else {
			regs = append(regs, name)
		}
	}
	return strings.Join(ports, ", "), body, wires, regs
}

// makeSource is a source, of which m is the top.
func makeSource(d *dice, loose bool) string {
	m := &maker{dice: *d, loose: loose, wides: map[string]int{}}
	head, body, wires, regs := m.declare()
	var items []string
	for len(wires)+len(regs) > 0 {
		var done []string
		if len(wires) > 0 && (len(regs) == 0 || m.roll(2) == 0) {
			done, wires = wires[:1], wires[1:]
			delay := m.one("", "", "#1 ", "#2 ", "#3 ")
			nets := m.sources()
			if delay != "" {
				nets = m.all
			}
			if m.roll(15) > 0 {
				items = append(items, "assign "+delay+done[0]+" = "+m.fitting(nets, 4)+";\n")
			}
		} else {
			n := 1 + m.roll(len(regs))
			done, regs = regs[:n], regs[n:]
			clock := m.ahead[m.roll(len(m.ahead))]
			items = append(items, m.always(done, m.one("", "i0", clock)))
		}
		m.ahead = append(m.ahead, done...)
	}
	if m.roll(2) == 0 {
		slices.Reverse(items)
	}
	*d = m.dice
	return "module m(" + head + ");\n" + body + strings.Join(items, "") + "endmodule\n"
}

// makeStimulus is changes of a design's inputs, the first of which toggles.
func makeStimulus(d *dice, f api.Flat) []api.Change {
	var out []api.Change
	for time := range 16 {
		for net := range f.Ports {
			if f.Nets[net].Kind != api.NetIn || d.roll(3) > 0 && net > 0 {
				continue
			}
			v := ""
			for range f.Nets[net].Wide {
				v += d.one("0", "1", "0", "1", "0", "1", "0", "1", "x", "z")
			}
			if net == 0 && d.roll(8) > 0 {
				v = strings.Repeat([]string{"0", "1"}[time%2], f.Nets[net].Wide)
			}
			out = append(out, api.Change{Time: time, Net: net, Value: v})
		}
	}
	return out
}
