package printer_test

import (
	"fmt"
	"reflect"
	"silkworm/api"
	"strings"
)

type dice uint32

func (d *dice) roll(n int) int {
	*d = *d*1664525 + 1013904223
	return int(*d>>8) % n
}

func (d *dice) one(list ...string) string {
	return list[d.roll(len(list))]
}

// maker makes up trees that layer 4 could have read, with whatever places.
type maker struct {
	dice
	size int // how much more may come
}

func (m *maker) at() int {
	return m.roll(2000) - 1000
}

func (m *maker) name() string {
	return m.one("a", "b", "clk", "Q_1", "_", "modul", "forr", "Begin", "x", "b0", strings.Repeat("n", 64))
}

// many is a list of a few, of at least so many.
func many[T any](m *maker, least int, one func() T) (list []T) {
	for len(list) < least || m.size > 0 && m.roll(3) > 0 {
		m.size--
		list = append(list, one())
	}
	return list
}

func makeModules(d *dice, size int) []api.Module {
	m := maker{dice: *d, size: size}
	list := many(&m, 1, m.module)
	*d = m.dice
	return list
}

func makeExpr(d *dice, room int) api.Expr {
	m := maker{dice: *d, size: 60}
	x := m.expr(room)
	*d = m.dice
	return x
}

func (m *maker) module() api.Module {
	return api.Module{Name: m.name(), Params: many(m, 0, m.bind), Ports: many(m, 0, m.port), Items: many(m, 0, func() api.Item { return m.item(2) }), At: m.at()}
}

func (m *maker) bind() api.Bind {
	return api.Bind{Name: m.name(), Value: m.expr(2), At: m.at()}
}

func (m *maker) port() api.Port {
	p := api.Port{Out: m.roll(3) > 0, Name: m.name(), At: m.at()}
	p.Reg = p.Out && m.roll(2) == 0
	p.Ranged, p.Hi, p.Lo = m.span()
	return p
}

func (m *maker) span() (bool, api.Expr, api.Expr) {
	if m.roll(2) == 0 {
		return false, api.Expr{}, api.Expr{}
	}
	return true, m.expr(2), m.expr(2)
}

func (m *maker) item(room int) api.Item {
	x := api.Item{Kind: api.ItWire + m.roll(8), At: m.at()}
	if x.Kind == api.ItFor && room == 0 {
		x.Kind = api.ItComb
	}
	switch x.Kind {
	case api.ItWire, api.ItReg:
		x.Ranged, x.Hi, x.Lo = m.span()
		x.Names = many(m, 1, m.name)
	case api.ItLocal:
		x.Name, x.Value = m.name(), m.expr(3)
	case api.ItAssign:
		x.Name, x.Value = m.name(), m.expr(3)
		if m.roll(2) == 0 {
			x.Timed, x.Delay = true, m.expr(2)
		}
	case api.ItClock, api.ItComb:
		if x.Kind == api.ItClock {
			x.Name = m.name()
		}
		x.Body = m.stmts(3)
	case api.ItInst:
		x.Module, x.Name, x.Params, x.Ports = m.name(), m.name(), many(m, 0, m.bind), many(m, 0, m.bind)
	case api.ItFor:
		x.Var, x.Value, x.While, x.Next, x.Name = m.name(), m.expr(2), m.expr(2), m.expr(2), m.name()
		x.Items = many(m, 0, func() api.Item { return m.item(room - 1) })
	}
	return x
}

func (m *maker) stmts(room int) []api.Stmt {
	return many(m, 0, func() api.Stmt { return m.stmt(room) })
}

func (m *maker) stmt(room int) api.Stmt {
	x := api.Stmt{Kind: api.StSet + m.roll(4), Value: m.expr(2), At: m.at()}
	if room == 0 {
		x.Kind = api.StDefer
	}
	switch x.Kind {
	case api.StSet, api.StDefer:
		x.Target = m.name()
	case api.StIf:
		x.Body, x.Else = m.stmts(room-1), m.stmts(room-1)
	case api.StCase:
		x.Arms = many(m, 0, func() api.Arm { return api.Arm{Label: m.expr(2), Body: m.stmts(room - 1)} })
		if m.roll(2) == 0 {
			x.Arms = append(x.Arms, api.Arm{Default: true, Body: m.stmts(room - 1)})
		}
	}
	return x
}

// partsOf is how many parts an operator has (a list between { } may have more, or fewer).
func partsOf(op int) int {
	switch {
	case op <= api.OpName:
		return 0
	case op == api.OpCond:
		return 3
	case op == api.OpBit || api.OpNot <= op && op <= api.OpXorR:
		return 1
	}
	return 2
}

func (m *maker) expr(room int) api.Expr {
	x := api.Expr{Op: api.OpNum + m.roll(api.OpLor), At: m.at()}
	if m.size--; room == 0 || m.size < 0 {
		x.Op = api.OpNum + m.roll(2)
	}
	n := partsOf(x.Op)
	if x.Op == api.OpCat {
		n = 1 + m.roll(3)
	}
	for range n {
		x.Kids = append(x.Kids, m.expr(room-1))
	}
	switch x.Op {
	case api.OpNum:
		x.Value, x.Plain = m.value()
	case api.OpName, api.OpBit, api.OpPart:
		x.Name = m.name()
	}
	return x
}

func (m *maker) value() (string, bool) {
	if m.roll(2) == 0 {
		return fmt.Sprintf("%032b", uint32(m.roll(1<<20))>>m.roll(20)), true
	}
	wide := []int{1, 2, 4, 32, 256}[m.roll(5)]
	var b strings.Builder
	for range wide {
		b.WriteByte("01xz"[m.roll(4)])
	}
	return b.String(), false
}

// leaves is all fields and lists within a value, those of places left out.
func leaves(v reflect.Value) (list []reflect.Value) {
	switch v.Kind() {
	case reflect.Slice:
		list = append(list, v)
		for i := range v.Len() {
			list = append(list, leaves(v.Index(i))...)
		}
	case reflect.Struct:
		for i := range v.NumField() {
			if v.Type().Field(i).Name != "At" {
				list = append(list, leaves(v.Field(i))...)
			}
		}
	default:
		list = append(list, v)
	}
	return list
}

// spoil makes one thing within a tree another one. (What comes of it may be a tree again.)
func (d *dice) spoil(tree any) {
	all := leaves(reflect.ValueOf(tree).Elem())
	v := all[d.roll(len(all))]
	switch v.Kind() {
	case reflect.Int:
		v.SetInt(int64(d.roll(34) - 3))
	case reflect.Bool:
		v.SetBool(!v.Bool())
	case reflect.String:
		v.SetString(d.one(oddTexts()...))
	case reflect.Slice:
		d.spoilList(v)
	}
}

func (d *dice) spoilList(v reflect.Value) {
	n := v.Len()
	switch kind := d.roll(3); {
	case kind == 0 && n > 0:
		v.Set(v.Slice(0, n-1))
	case kind == 1 && n > 0:
		v.Set(reflect.Append(v.Slice3(0, n, n), v.Index(d.roll(n))))
	default:
		v.Set(reflect.Append(v.Slice3(0, n, n), reflect.Zero(v.Type().Elem())))
	}
}

// oddTexts is texts that are names, or vectors, or neither.
func oddTexts() []string {
	return []string{"", "a", "b", "z", "x", "0", "1", "01xz", "X", "2", "00000000000000000000000000000011", "A_0", strings.Repeat("n", 64), strings.Repeat("n", 65), strings.Repeat("1", 256), strings.Repeat("1", 257), "a b", "a ", " a", "\n", "a;", ";", "a[0]", "a+b", "(a)", "1'b0", "é", "\x00", "`a", "a//", "/**/a", "$a", "a$", "-1", "+1", "0_1", "module", "for", "begin", "end", "posedge", "default", "reg", "m ( ) ; endmodule module n"}
}
