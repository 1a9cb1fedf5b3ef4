package sema_test

import (
	"fmt"
	"maps"
	"slices"
	"strings"
)

// maker makes up sources that are accepted, but for the wrong turns that it takes: so many of a thousand.
type maker struct {
	dice
	wrong int
	next  int // names are made of numbers
	faces []face
}

// face is what instances of a module may bind.
type face struct {
	name              string
	params, ins, outs []string
}

// area is a scope, and those of its nets that are not driven yet.
type area struct {
	around      *area
	names       []string
	kinds       map[string]string
	wires, regs []string
}

func (m *maker) errs() bool {
	return m.roll(1000) < m.wrong
}

// fresh is a new name, or now and then one that a scope around may have.
func (m *maker) fresh(s *area) string {
	m.next++
	name := m.one("a", "b", "c") + fmt.Sprint(m.next)
	if s.around != nil && m.roll(4) == 0 {
		around := s.around.all()
		name = around[m.roll(len(around))]
	}
	if m.errs() {
		name = m.anyName(s)
	}
	if s.kinds[name] != "" && !m.errs() {
		return m.fresh(s)
	}
	return name
}

// anyName is whatever name, of whatever kind.
func (m *maker) anyName(s *area) string {
	list := append(s.all(), "k", "h", m.faces[0].name)
	return list[m.roll(len(list))]
}

// all is the names of a scope and those around, hidden ones too.
func (s *area) all() []string {
	if s == nil {
		return nil
	}
	return append(s.around.all(), s.names...)
}

func (s *area) kind(name string) string {
	for ; s != nil; s = s.around {
		if s.kinds[name] != "" {
			return s.kinds[name]
		}
	}
	return ""
}

func (m *maker) declare(s *area, kind string) string {
	name := m.fresh(s)
	if s.kinds[name] == "" {
		s.kinds[name] = kind
		s.names = append(s.names, name)
		switch kind {
		case "wire":
			s.wires = append(s.wires, name)
		case "reg":
			s.regs = append(s.regs, name)
		}
	}
	return name
}

// pick is one of the names of a scope and those around that are of one of the kinds; a number, or any name, if there is none.
func (m *maker) pick(s *area, none string, kinds ...string) string {
	if m.errs() {
		return m.anyName(s)
	}
	var list []string
	for _, name := range s.all() {
		if slices.Contains(kinds, s.kind(name)) {
			list = append(list, name)
		}
	}
	if len(list) == 0 {
		return none
	}
	return list[m.roll(len(list))]
}

// reader is names that may be read.
type reader func() string

func (m *maker) reads(s *area) reader {
	return func() string { return m.pick(s, "1", "input", "wire", "reg", "const") }
}

func (m *maker) expr(read reader, room int) string {
	kind := m.roll(10)
	if room == 0 {
		kind %= 4
	}
	name := read()
	switch {
	case kind == 0:
		return m.one("0", "1", "4'b1x0z")
	case kind <= 3 || name == "1":
		return name
	case kind == 4:
		return name + "[" + m.expr(read, room-1) + "]"
	case kind == 5:
		return name + "[" + m.one("k", "1", "h[k]") + ":" + m.one("0", "g") + "]"
	case kind == 6:
		return "{" + m.expr(read, room-1) + ", " + m.expr(read, room-1) + "}"
	case kind == 7:
		return m.one("~", "!", "-", "&", "|", "^") + "(" + m.expr(read, room-1) + ")"
	case kind == 8:
		return "(" + m.expr(read, room-1) + " ? " + m.expr(read, room-1) + " : " + m.expr(read, room-1) + ")"
	}
	return "(" + m.expr(read, room-1) + m.one(" + ", " - ", " << ", " < ", " == ", " & ", " || ") + m.expr(read, room-1) + ")"
}

func makeSource(d *dice, wrong int) string {
	m := maker{dice: *d, wrong: wrong}
	for i := range 1 + m.roll(3) {
		m.faces = append(m.faces, face{name: fmt.Sprintf("m%d", i)})
	}
	areas := make([]*area, len(m.faces))
	heads := make([]string, len(m.faces))
	for i := range m.faces {
		if m.errs() {
			m.faces[i].name = m.faces[m.roll(len(m.faces))].name
		}
		areas[i] = &area{kinds: map[string]string{}}
		heads[i] = m.head(&m.faces[i], areas[i])
	}
	var out strings.Builder
	for i := range m.faces {
		out.WriteString(heads[i] + strings.Join(m.items(areas[i], 2), " ") + " endmodule ")
	}
	*d = m.dice
	return out.String()
}

func (m *maker) head(f *face, s *area) string {
	var params, ports []string
	for range m.roll(3) {
		name := m.declare(s, "const")
		f.params = append(f.params, name)
		params = append(params, "parameter "+name+" = "+m.one("1", "k + h"))
	}
	for range m.roll(6) {
		kind := m.one("input", "wire", "reg", "input")
		name := m.declare(s, kind)
		if kind == "input" {
			f.ins = append(f.ins, name)
		} else {
			f.outs = append(f.outs, name)
		}
		word := map[string]string{"input": "input ", "wire": "output ", "reg": "output reg "}[kind]
		ports = append(ports, word+m.one("", "[1:0] ", "[k:h] ")+name)
	}
	text := "module " + f.name + " "
	if len(params) > 0 {
		text += "#(" + strings.Join(params, ", ") + ") "
	}
	return text + "(" + strings.Join(ports, ", ") + "); "
}

// items declares all names of a scope, and then makes what drives them.
func (m *maker) items(s *area, room int) []string {
	var list, labels, instances []string
	for range m.roll(4) {
		kind := m.one("wire", "reg")
		text := kind + m.one(" ", " [3:0] ", " [k:h] ") + m.declare(s, kind)
		for m.roll(3) == 0 {
			text += ", " + m.declare(s, kind)
		}
		list = append(list, text+";")
	}
	for range m.roll(2) {
		list = append(list, "localparam "+m.declare(s, "const")+" = "+m.one("1", "k[h]")+";")
	}
	for range m.roll(3) {
		instances = append(instances, m.declare(s, "inst"))
	}
	for i := 0; i < m.roll(3) && room > 0; i++ {
		labels = append(labels, m.declare(s, "label"))
	}
	for _, name := range instances {
		list = append(list, m.instance(s, name))
	}
	for _, label := range labels {
		list = append(list, m.loop(s, label, room))
	}
	for len(s.regs) > 0 && m.roll(8) > 0 {
		list = append(list, m.always(s))
	}
	for len(s.wires) > 0 && m.roll(8) > 0 || m.errs() {
		list = append(list, "assign "+m.one("", "#2 ", "#k ")+m.take(s, &s.wires)+" = "+m.expr(m.reads(s), 3)+";")
	}
	for i := range list {
		j := m.roll(i + 1)
		list[i], list[j] = list[j], list[i]
	}
	return list
}

// take is a net that is not driven yet, and is now.
func (m *maker) take(s *area, list *[]string) string {
	if len(*list) == 0 || m.errs() {
		return m.anyName(s)
	}
	i := m.roll(len(*list))
	name := (*list)[i]
	if !m.errs() {
		*list = slices.Delete(slices.Clone(*list), i, i+1)
	}
	return name
}

func (m *maker) loop(s *area, label string, room int) string {
	in := &area{around: s, kinds: map[string]string{}}
	variable := m.declare(in, "const")
	return "for (" + variable + " = k; h; " + variable + " = " + variable + " + 1) begin : " + label + " " + strings.Join(m.items(in, room-1), " ") + " end"
}

func (m *maker) instance(s *area, name string) string {
	f := m.faces[m.roll(len(m.faces))]
	text := f.name + " "
	if m.errs() {
		text = m.anyName(s) + " "
	}
	params := m.binds(s, f.params, func() string { return m.one("1", "k", "h + 1") })
	if len(params) > 0 {
		text += "#(" + strings.Join(params, ", ") + ") "
	}
	ports := m.binds(s, f.ins, func() string { return m.expr(m.reads(s), 2) })
	ports = append(ports, m.binds(s, f.outs, func() string { return m.output(s) })...)
	for i := range ports {
		j := m.roll(i + 1)
		ports[i], ports[j] = ports[j], ports[i]
	}
	return text + name + " (" + strings.Join(ports, ", ") + ");"
}

// output is what an output may be bound to; no text: there is nothing left.
func (m *maker) output(s *area) string {
	if m.errs() {
		return m.expr(m.reads(s), 2)
	}
	if len(s.wires) == 0 {
		return ""
	}
	return m.take(s, &s.wires)
}

// binds is some of the names, with values.
func (m *maker) binds(s *area, names []string, value func() string) (list []string) {
	for _, name := range names {
		if m.roll(3) == 0 {
			continue
		}
		if m.errs() {
			name = m.anyName(s)
		}
		for twice := true; twice; twice = m.errs() {
			if v := value(); v != "" {
				list = append(list, "."+name+"("+v+")")
			}
		}
	}
	return list
}

// body makes the statements of an always.
type body struct {
	*maker
	area    *area
	sign    string
	targets []string
	sure    map[string]int
	clocked bool
}

func (m *maker) always(s *area) string {
	b := body{maker: m, area: s, sign: " = ", sure: map[string]int{}, clocked: m.roll(2) == 0}
	head := "always @(*) begin "
	if b.clocked {
		b.sign = " <= "
		clock := m.pick(s, "", "input", "wire", "reg")
		head = "always @(posedge " + clock + ") begin "
	}
	for range 1 + m.roll(3) {
		if len(s.regs) > 0 {
			b.targets = append(b.targets, m.take(s, &s.regs))
		}
	}
	text := b.list(3)
	for _, name := range b.targets {
		if b.clocked || b.sure[name] == 0 && !m.errs() {
			text += b.assign(name)
		}
	}
	return head + text + "end"
}

// read is a name that is no target, or is sure by now.
func (b *body) read() string {
	for {
		name := b.pick(b.area, "1", "input", "wire", "reg", "const")
		if b.clocked || !slices.Contains(b.targets, name) || b.sure[name] > 0 || b.errs() {
			return name
		}
		if b.roll(5) == 0 {
			return "1"
		}
	}
}

func (b *body) assign(name string) string {
	text := name + b.sign + b.expr(b.read, 2) + "; "
	if b.errs() {
		text = name + b.one(" = ", " <= ") + b.expr(b.read, 2) + "; "
	}
	b.sure[name]++
	return text
}

func (b *body) list(room int) (text string) {
	for range b.roll(4) {
		text += b.stmt(room)
	}
	return text
}

func (b *body) stmt(room int) string {
	kind := b.roll(6)
	switch {
	case kind < 3 || room == 0:
		name := b.targets[b.roll(len(b.targets))]
		if b.errs() {
			name = b.anyName(b.area)
		}
		return b.assign(name)
	case kind == 3:
		return "begin " + b.list(room-1) + "end "
	case kind == 4:
		text := "if (" + b.expr(b.read, 2) + ") "
		ways := []string{"begin ", "else begin "}
		if b.roll(2) == 0 {
			ways = append(ways[:1], "")
		}
		return text + b.ways(ways, true, room)
	}
	text := "case (" + b.expr(b.read, 2) + ") "
	var ways []string
	for range b.roll(3) {
		ways = append(ways, b.expr(b.read, 1)+": begin ")
	}
	if b.roll(2) == 0 {
		return text + b.ways(append(ways, "default: begin "), true, room) + "endcase "
	}
	return text + b.ways(ways, false, room) + "endcase "
}

// ways makes bodies, one of which is taken, if they are whole; else none may be. One without a head is empty. Behind them is sure what is so behind all.
func (b *body) ways(heads []string, whole bool, room int) (text string) {
	ahead := b.sure
	count := map[string]int{}
	for _, head := range heads {
		b.sure = maps.Clone(ahead)
		if head != "" {
			text += head + b.list(room-1) + "end "
		}
		for name := range b.sure {
			count[name]++
		}
	}
	b.sure = ahead
	for name, n := range count {
		if whole && n == len(heads) {
			b.sure[name] = 1
		}
	}
	return text
}
