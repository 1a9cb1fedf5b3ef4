package elab_test

import (
	"fmt"
	"slices"
	"strings"
)

// maker makes up sources that are accepted, but for the wrong turns that it takes: so many of a thousand. A large one has fors and instances up to what there may be, and more.
type maker struct {
	dice
	wrong int
	large bool
	next  int // names are made of numbers
	faces []face
}

// face is what instances of a module may bind.
type face struct {
	name              string
	params, ins, outs []string
}

// area is a scope: its names, of what kind they are, and those of its nets that are not driven yet.
type area struct {
	around      *area
	module      int
	deep        int // of fors
	names       []string
	kinds       map[string]string
	wide        map[string]int // the bits that a net has at the least
	wires, regs []string
}

func (m *maker) errs() bool {
	return m.roll(1000) < m.wrong
}

func (s *area) all() []string {
	if s == nil {
		return nil
	}
	return append(s.around.all(), s.names...)
}

// home is the innermost scope that has a name.
func (s *area) home(name string) *area {
	for ; s != nil && s.kinds[name] == ""; s = s.around {
	}
	return s
}

// declare makes a name of a scope up: now and then one that a scope around has (no label's: it would hide what items ahead of it read).
func (m *maker) declare(s *area, kind string) string {
	m.next++
	name := m.one("a", "b", "c") + fmt.Sprint(m.next)
	if around := s.around.all(); len(around) > 0 && kind != "label" && m.roll(4) == 0 {
		name = around[m.roll(len(around))]
	}
	if all := s.all(); len(all) > 0 && m.errs() {
		name = all[m.roll(len(all))]
	}
	if s.kinds[name] != "" && !m.errs() {
		return m.declare(s, kind)
	}
	s.kinds[name] = kind
	s.names = append(s.names, name)
	switch kind {
	case "wire":
		s.wires = append(s.wires, name)
	case "reg":
		s.regs = append(s.regs, name)
	}
	return name
}

// pick is one of the names that are of one of the kinds where they stand; the other text, if there is none.
func (m *maker) pick(s *area, none string, kinds ...string) string {
	all := s.all()
	if m.errs() && len(all) > 0 {
		return m.one(all[m.roll(len(all))], "k")
	}
	var list []string
	for _, name := range all {
		if slices.Contains(kinds, s.home(name).kinds[name]) {
			list = append(list, name)
		}
	}
	if len(list) == 0 {
		return none
	}
	return list[m.roll(len(list))]
}

// constant is a constant expression; mostly it comes to a small number.
func (m *maker) constant(s *area, room int) string {
	if m.errs() {
		return m.one("k", "~1", "(1 << 31)", "4'b1x00", "(2147483647 + 1)", "a[0]", "(-1)", "256", "{1, 1}")
	}
	c := m.pick(s, "1", "const")
	if room == 0 || m.roll(3) == 0 {
		return m.one("0", "1", "2", "3", "2'd2", c, c, c)
	}
	switch m.roll(6) {
	case 0:
		return "(" + c + " < " + m.constant(s, room-1) + ")"
	case 1:
		return "(" + c + " > 2 ? 1 : " + m.constant(s, room-1) + ")"
	case 2:
		return "(" + m.constant(s, room-1) + m.one(" & ", " | ", " ^ ", " >> ") + m.one("1", "2") + ")"
	case 3:
		return "(" + m.constant(s, room-1) + " - " + m.constant(s, 0) + ")"
	}
	return "(" + m.constant(s, room-1) + " + " + m.constant(s, 0) + ")"
}

// width is a range, and how many bits it has at the least.
func (m *maker) width(s *area) (string, int) {
	switch kind := m.roll(5); {
	case m.errs():
		return "[" + m.constant(s, 1) + ":" + m.constant(s, 1) + "] ", 1
	case kind == 0:
		return "", 1
	case kind == 1:
		return m.one("[9:0] ", "[31:0] ", "[255:0] "), 10
	case kind == 2:
		return "[(" + m.constant(s, 1) + " & 7) + 7:0] ", 8
	}
	return "[7:0] ", 8
}

func (m *maker) nets(s *area, kind string) string {
	wide, least := m.width(s)
	var names []string
	for range 1 + m.roll(3) {
		name := m.declare(s, kind)
		s.wide[name] = least
		names = append(names, name)
	}
	return kind + " " + wide + strings.Join(names, ", ") + ";\n"
}

// expr is a value, over the nets that are not hushed.
func (m *maker) expr(s *area, hushed []string, room int) string {
	kind := m.roll(12)
	if room == 0 {
		kind %= 4
	}
	name := m.pick(s, "1", "input", "wire", "reg")
	if h := s.home(name); name == "1" || slices.Contains(hushed, name) && h == s && !m.errs() || h == nil {
		kind, name = kind%2, "1"
	}
	sub := func() string { return m.expr(s, hushed, room-1) }
	switch {
	case kind == 0:
		return m.one("0", "1", "4'b1x0z", "8'hf0", "32'd7", m.pick(s, "1", "const"))
	case kind <= 3:
		return name
	case kind == 4:
		return m.bitOf(s, name) + "[" + sub() + "]"
	case kind <= 6:
		return m.bitOf(s, name) + "[" + m.bounds(s, name) + "]"
	case kind == 7:
		return "{" + sub() + m.one(", "+sub(), ", "+sub()+", "+sub(), "") + "}"
	case kind == 8:
		return m.one("~", "!", "-", "&", "|", "^") + "(" + sub() + ")"
	case kind == 9:
		return "(" + sub() + " ? " + sub() + " : " + sub() + ")"
	}
	return "(" + sub() + m.one(" + ", " - ", " << ", " >> ", " < ", " >= ", " == ", " & ", " | ", " ^ ", " && ", " || ") + sub() + ")"
}

// bitOf is a name whose bits are taken: a net's, or now and then a constant's.
func (m *maker) bitOf(s *area, name string) string {
	if m.errs() {
		return m.pick(s, name, "const")
	}
	return name
}

func (m *maker) bounds(s *area, name string) string {
	if m.errs() {
		return m.constant(s, 1) + ":" + m.constant(s, 1)
	}
	least := max(s.home(name).wide[name], 1)
	hi := m.roll(least)
	lo := m.roll(hi + 1)
	c := m.constant(s, 0)
	return fmt.Sprintf("%d%s:%s%d", hi, m.one("", " + 0"), m.one("", "("+c+" < "+c+") + "), lo)
}

func makeSource(d *dice, wrong int, large bool) string {
	m := maker{dice: *d, wrong: wrong, large: large}
	var areas []*area
	var heads []string
	for i := range 1 + m.roll(4) {
		s := &area{module: i, kinds: map[string]string{}, wide: map[string]int{}}
		m.faces = append(m.faces, face{name: fmt.Sprintf("m%d", i)})
		areas, heads = append(areas, s), append(heads, m.head(s))
	}
	var out []string
	for i, s := range areas {
		out = append(out, heads[i]+m.items(s, 3+m.roll(6))+"endmodule\n")
	}
	if m.roll(2) == 0 {
		slices.Reverse(out)
	}
	*d = m.dice
	return strings.Join(out, "")
}

func (m *maker) head(s *area) string {
	f := &m.faces[s.module]
	out := "module " + f.name
	var params, ports []string
	for range m.roll(3) {
		value := m.constant(s, 1)
		name := m.declare(s, "const")
		f.params = append(f.params, name)
		params = append(params, "parameter "+name+" = "+value)
	}
	if len(params) > 0 {
		out += " #(" + strings.Join(params, ", ") + ")"
	}
	for range m.roll(5) {
		wide, least := m.width(s)
		kind := m.one("input", "wire", "reg")
		name := m.declare(s, kind)
		s.wide[name] = least
		ports = append(ports, map[string]string{"input": "input ", "wire": "output ", "reg": "output reg "}[kind]+wide+name)
		if kind == "input" {
			f.ins = append(f.ins, name)
		} else {
			f.outs = append(f.outs, name)
		}
	}
	return out + " (" + strings.Join(ports, ", ") + ");\n"
}

// items is declarations, then what drives nets, stirred: a constant stands ahead of the nets that hang on it.
func (m *maker) items(s *area, room int) string {
	var ahead, behind []string
	for range 1 + m.roll(4) {
		switch m.roll(4) {
		case 0:
			value := m.constant(s, 2)
			ahead = append(ahead, "localparam "+m.declare(s, "const")+" = "+value+";\n")
		case 1:
			ahead = append(ahead, m.nets(s, "reg"))
		default:
			ahead = append(ahead, m.nets(s, "wire"))
		}
	}
	for range room {
		behind = append(behind, m.item(s))
	}
	var out strings.Builder
	for len(ahead)+len(behind) > 0 {
		from := &ahead
		if len(ahead) == 0 || len(behind) > 0 && m.roll(2) == 0 {
			from = &behind
		}
		out.WriteString((*from)[0])
		*from = (*from)[1:]
	}
	return out.String()
}

func (m *maker) item(s *area) string {
	switch m.roll(8) {
	case 0, 1, 2:
		delay := m.one("", "", "#3 ", "#(("+m.constant(s, 1)+" & 7) + 1) ")
		if m.errs() {
			delay = "#(" + m.constant(s, 1) + ") "
		}
		target := m.undriven(s, &s.wires)
		if target == "" {
			return ""
		}
		return "assign " + delay + target + " = " + m.expr(s, nil, 3) + ";\n"
	case 3:
		return m.comb(s)
	case 4:
		return m.clock(s)
	case 5:
		return m.instance(s)
	}
	if s.deep == 3 {
		return ""
	}
	return m.loop(s)
}

// undriven takes a net out of a list, if there is one.
func (m *maker) undriven(s *area, list *[]string) string {
	if m.errs() {
		return m.pick(s, "k", "wire", "reg", "input")
	}
	if len(*list) == 0 {
		return ""
	}
	at := m.roll(len(*list))
	name := (*list)[at]
	*list = slices.Delete(slices.Clone(*list), at, at+1)
	return name
}

func (m *maker) comb(s *area) string {
	var targets []string
	for range 1 + m.roll(2) {
		if name := m.undriven(s, &s.regs); name != "" {
			targets = append(targets, name)
		}
	}
	out := "always @(*) begin\n"
	for _, name := range targets {
		out += name + " = " + m.expr(s, targets, 2) + ";\n"
	}
	return out + m.stmts(s, targets, " = ", 2) + "end\n"
}

func (m *maker) clock(s *area) string {
	clock := m.pick(s, "", "input", "wire", "reg")
	target := m.undriven(s, &s.regs)
	if clock == "" || target == "" {
		return ""
	}
	return "always @(posedge " + clock + ") begin\n" + m.stmts(s, []string{target}, " <= ", 2) + target + " <= " + m.expr(s, nil, 2) + ";\nend\n"
}

func (m *maker) stmts(s *area, targets []string, sign string, room int) string {
	out := ""
	for range m.roll(3) {
		switch {
		case len(targets) == 0:
		case room == 0 || m.roll(2) == 0:
			out += targets[m.roll(len(targets))] + sign + m.expr(s, nil, 2) + ";\n"
		case m.roll(2) == 0:
			out += "if (" + m.expr(s, nil, 1) + ") begin " + m.stmts(s, targets, sign, room-1) + " end else begin " + m.stmts(s, targets, sign, room-1) + " end\n"
		default:
			out += "case (" + m.expr(s, nil, 1) + ") " + m.expr(s, nil, 1) + ": begin " + m.stmts(s, targets, sign, room-1) + " end 1: begin end " + m.one("", "default: begin "+m.stmts(s, targets, sign, room-1)+" end ") + "endcase\n"
		}
	}
	return out
}

// instance is one of a module of a higher number, so that it ends; now and then of any.
func (m *maker) instance(s *area) string {
	of := s.module + 1 + m.roll(3)
	if m.roll(100) < 2+m.wrong/2 {
		of = m.roll(len(m.faces))
	}
	if of >= len(m.faces) {
		return ""
	}
	f := m.faces[of]
	out := f.name
	var params, ports []string
	for _, name := range f.params {
		if m.roll(2) == 0 {
			params = append(params, "."+name+"("+m.constant(s, 1)+")")
		}
	}
	if len(params) > 0 {
		slices.Reverse(params)
		out += " #(" + strings.Join(params, ", ") + ")"
	}
	for _, name := range f.ins {
		if m.roll(4) > 0 {
			ports = append(ports, "."+name+"("+m.expr(s, nil, 2)+")")
		}
	}
	for _, name := range f.outs {
		if to := m.undriven(s, &s.wires); to != "" && m.roll(4) > 0 {
			ports = append(ports, "."+name+"("+to+")")
		}
	}
	if m.roll(2) == 0 {
		slices.Reverse(ports)
	}
	return out + " " + m.declare(s, "label") + " (" + strings.Join(ports, ", ") + ");\n"
}

func (m *maker) loop(s *area) string {
	in := &area{around: s, module: s.module, deep: s.deep + 1, kinds: map[string]string{}, wide: map[string]int{}}
	v := m.declare(in, "const")
	c := m.constant(s, 1)
	text := m.one("# = 0; # < 2; # = # + 1", "# = 2; # > 0; # = # - 1", "# = -1; # < 1; # = # + 1", "# = 1; # < 5; # = # << 1", "# = "+c+"; # < 3; # = # + 1", "# = ("+c+") & 3; #; # = # - 1", "# = 0; # < (("+c+") & 3); # = # + 1", "# = 7; 0; # = k", "# = 5; # == 5; # = # + "+c+" + 9")
	if m.large && m.roll(3) == 0 {
		text = m.one("# = 0; # < 64; # = # + 1", "# = 0; # < 20; # = # + 1", "# = 16; # > 0; # = # - 1", "# = 0; # <= 64; # = # + 1")
	}
	if m.errs() {
		text = m.one("# = 0; # < 3; # = "+m.constant(s, 1), "# = "+m.constant(s, 1)+"; 1; # = #", "# = 0; "+m.constant(s, 1)+"; # = # + 1")
	}
	label := m.declare(s, "label")
	return "for (" + strings.ReplaceAll(text, "#", v) + ") begin : " + label + "\n" + m.items(in, 1+m.roll(3)) + "end\n"
}
