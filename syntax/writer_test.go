package syntax_test

import "silkworm/api"

// writer makes up a tree, and writes its tokens: what a parser has to tell is known without reading.
type writer struct {
	dice
	list []api.Token
	at   int
	size int // how much more may come
}

// put writes a token: its kind is to be seen by its first byte. It tells its place.
func (w *writer) put(text string) int {
	t := api.Token{Kind: api.TokSign, Text: text, At: w.at}
	switch c := text[0]; {
	case 'a' <= c && c <= 'z' || 'A' <= c && c <= 'Z':
		t.Kind = api.TokName
	case '0' <= c && c <= '9':
		t.Kind = api.TokNumber
	}
	w.list = append(w.list, t)
	w.at += len(text) + w.roll(3)
	return t.At
}

// next is the place of the token that comes next. (A call, since calls in one literal go from the left to the right.)
func (w *writer) next() int {
	return w.at
}

// puts writes several tokens. It tells the first one's place.
func (w *writer) puts(list ...string) int {
	at := w.put(list[0])
	for _, s := range list[1:] {
		w.put(s)
	}
	return at
}

func (w *writer) name() string {
	w.put(w.one("a", "b", "c", "sel", "clk", "Q", "modul", "endd", "If"))
	return w.list[len(w.list)-1].Text
}

// more tells, ever less often, whether there is another one.
func (w *writer) more() bool {
	w.size--
	return w.size > 0 && w.roll(5) > 1
}

// commas writes one, and more of them behind commas.
func (w *writer) commas(one func()) {
	one()
	for w.more() && w.roll(2) == 0 {
		w.put(",")
		one()
	}
}

func writeSource(d *dice, size int) ([]api.Module, []api.Token) {
	w := writer{dice: *d, size: size}
	list := []api.Module{w.module()}
	for w.roll(3) == 0 {
		list = append(list, w.module())
	}
	*d = w.dice
	return list, append(w.list, api.Token{Kind: api.TokEnd, At: w.at})
}

func (w *writer) module() api.Module {
	m := api.Module{At: w.put("module"), Name: w.name()}
	if w.roll(3) == 0 {
		w.puts("#", "(")
		w.commas(func() {
			w.put("parameter")
			b := api.Bind{At: w.next(), Name: w.name()}
			w.put("=")
			b.Value = w.expr(3)
			m.Params = append(m.Params, b)
		})
		w.put(")")
	}
	w.put("(")
	if w.roll(4) > 0 {
		w.commas(func() { m.Ports = append(m.Ports, w.port()) })
	}
	w.puts(")", ";")
	for w.more() {
		m.Items = append(m.Items, w.item(3))
	}
	w.put("endmodule")
	return m
}

func (w *writer) port() api.Port {
	x := api.Port{Out: w.roll(2) == 0}
	if x.Out {
		x.At = w.put("output")
		x.Reg = w.roll(2) == 0
		if x.Reg {
			w.put("reg")
		}
	} else {
		x.At = w.put("input")
	}
	x.Ranged, x.Hi, x.Lo = w.span()
	x.Name = w.name()
	return x
}

func (w *writer) span() (ranged bool, hi, lo api.Expr) {
	if w.roll(2) == 0 {
		return false, hi, lo
	}
	w.put("[")
	hi = w.expr(3)
	w.put(":")
	lo = w.expr(3)
	w.put("]")
	return true, hi, lo
}

func (w *writer) binds() (list []api.Bind) {
	w.commas(func() {
		b := api.Bind{At: w.put("."), Name: w.name()}
		w.put("(")
		b.Value = w.expr(3)
		w.put(")")
		list = append(list, b)
	})
	return list
}

func (w *writer) item(room int) api.Item {
	x := api.Item{Kind: api.ItWire + w.roll(8), At: w.at}
	if x.Kind == api.ItFor && room == 0 {
		x.Kind = api.ItInst
	}
	switch x.Kind {
	case api.ItWire, api.ItReg:
		w.put(map[int]string{api.ItWire: "wire", api.ItReg: "reg"}[x.Kind])
		x.Ranged, x.Hi, x.Lo = w.span()
		w.commas(func() { x.Names = append(x.Names, w.name()) })
		w.put(";")
	case api.ItLocal:
		w.put("localparam")
		x.Name, x.Value = w.driven(";")
	case api.ItAssign:
		w.put("assign")
		if x.Timed = w.roll(2) == 0; x.Timed {
			w.put("#")
			x.Delay = w.primary(3)
		}
		x.Name, x.Value = w.driven(";")
	case api.ItComb:
		w.puts("always", "@", "(", "*", ")")
		x.Body = w.stmt(4, false)
	case api.ItClock:
		w.puts("always", "@", "(", "posedge")
		x.Name = w.name()
		w.put(")")
		x.Body = w.stmt(4, false)
	case api.ItInst:
		w.instance(&x)
	case api.ItFor:
		w.loop(&x, room)
	}
	return x
}

func (w *writer) driven(last string) (string, api.Expr) {
	name := w.name()
	w.put("=")
	value := w.expr(4)
	w.put(last)
	return name, value
}

func (w *writer) instance(x *api.Item) {
	x.Module = w.name()
	if w.roll(2) == 0 {
		w.puts("#", "(")
		x.Params = w.binds()
		w.put(")")
	}
	x.Name = w.name()
	w.put("(")
	if w.roll(4) > 0 {
		x.Ports = w.binds()
	}
	w.puts(")", ";")
}

func (w *writer) loop(x *api.Item, room int) {
	w.puts("for", "(")
	x.Var, x.Value = w.driven(";")
	x.While = w.expr(3)
	w.puts(";", x.Var, "=")
	x.Next = w.expr(3)
	w.puts(")", "begin", ":")
	x.Name = w.name()
	for w.more() {
		x.Items = append(x.Items, w.item(room-1))
	}
	w.put("end")
}

// stmt writes a statement. A whole one is none that an else behind it could belong to.
func (w *writer) stmt(room int, whole bool) []api.Stmt {
	kind := w.roll(5)
	if room == 0 || !w.more() {
		kind = 4
	}
	switch kind {
	case 0:
		var list []api.Stmt
		w.put("begin")
		for w.more() {
			list = append(list, w.stmt(room-1, false)...)
		}
		w.put("end")
		return list
	case 1, 2:
		x := api.Stmt{Kind: api.StIf, At: w.puts("if", "(")}
		x.Value = w.expr(3)
		w.put(")")
		two := whole || w.roll(2) == 0
		x.Body = w.stmt(room-1, two)
		if two {
			w.put("else")
			x.Else = w.stmt(room-1, whole)
		}
		return []api.Stmt{x}
	case 3:
		return []api.Stmt{w.choice(room)}
	}
	x := api.Stmt{Kind: api.StSet, At: w.next(), Target: w.name()}
	if w.roll(2) == 0 {
		x.Kind = api.StDefer
	}
	w.put(map[int]string{api.StSet: "=", api.StDefer: "<="}[x.Kind])
	x.Value = w.expr(4)
	w.put(";")
	return []api.Stmt{x}
}

func (w *writer) choice(room int) api.Stmt {
	x := api.Stmt{Kind: api.StCase, At: w.puts("case", "(")}
	x.Value = w.expr(3)
	w.put(")")
	for w.more() {
		a := api.Arm{Label: w.expr(3)}
		w.put(":")
		a.Body = w.stmt(room-1, false)
		x.Arms = append(x.Arms, a)
	}
	if w.roll(2) == 0 {
		w.puts("default", ":")
		x.Arms = append(x.Arms, api.Arm{Default: true, Body: w.stmt(room-1, false)})
	}
	w.put("endcase")
	return x
}

// levels is the signs between two parts, the loosest first.
func levels() [][]string {
	return [][]string{{"||"}, {"&&"}, {"|"}, {"^"}, {"&"}, {"==", "!="}, {"<", "<=", ">", ">="}, {"<<", ">>"}, {"+", "-"}}
}

func binaryOps() map[string]int {
	return map[string]int{"+": api.OpAdd, "-": api.OpSub, "<<": api.OpShl, ">>": api.OpShr, "<": api.OpLt, "<=": api.OpLe, ">": api.OpGt, ">=": api.OpGe, "==": api.OpEq, "!=": api.OpNe, "&": api.OpAnd, "^": api.OpXor, "|": api.OpOr, "&&": api.OpLand, "||": api.OpLor}
}

func unaryOps() map[string]int {
	return map[string]int{"~": api.OpNot, "!": api.OpLog, "-": api.OpNeg, "&": api.OpAllR, "|": api.OpAnyR, "^": api.OpXorR}
}

func (w *writer) expr(room int) api.Expr {
	x := w.binary(room, 0)
	if room == 0 || w.roll(6) > 0 {
		return x
	}
	c := api.Expr{Op: api.OpCond, At: w.put("?")}
	yes := w.expr(room - 1)
	w.put(":")
	c.Kids = []api.Expr{x, yes, w.expr(room - 1)}
	return c
}

// binary writes an expression whose signs are of a level, or bind more tightly.
func (w *writer) binary(room, level int) api.Expr {
	w.size--
	if level == 9 || w.size < 0 || w.roll(5) > 1 {
		return w.unary(room)
	}
	level += w.roll(9 - level)
	left := w.binary(room, level)
	sign := w.one(levels()[level]...)
	x := api.Expr{Op: binaryOps()[sign], At: w.put(sign)}
	x.Kids = []api.Expr{left, w.binary(room, level+1)}
	return x
}

func (w *writer) unary(room int) api.Expr {
	if room == 0 || w.roll(4) > 0 {
		return w.primary(room)
	}
	sign := w.one("~", "!", "-", "&", "|", "^")
	return api.Expr{Op: unaryOps()[sign], At: w.put(sign), Kids: []api.Expr{w.unary(room - 1)}}
}

func (w *writer) primary(room int) api.Expr {
	kind := w.roll(10)
	if room == 0 {
		kind %= 5
	}
	switch kind {
	case 0, 1:
		return w.number()
	case 5, 6:
		w.put("(")
		x := w.expr(room - 1)
		w.put(")")
		return x
	case 7:
		x := api.Expr{Op: api.OpCat, At: w.put("{")}
		w.commas(func() { x.Kids = append(x.Kids, w.expr(room-1)) })
		w.put("}")
		return x
	case 8:
		x := api.Expr{Op: api.OpBit, At: w.next(), Name: w.name()}
		w.put("[")
		x.Kids = []api.Expr{w.expr(room - 1)}
		w.put("]")
		return x
	case 9:
		x := api.Expr{Op: api.OpPart, At: w.next(), Name: w.name()}
		w.put("[")
		hi := w.expr(room - 1)
		w.put(":")
		x.Kids = []api.Expr{hi, w.expr(room - 1)}
		w.put("]")
		return x
	}
	return api.Expr{Op: api.OpName, At: w.next(), Name: w.name()}
}

func (w *writer) number() api.Expr {
	x := api.Expr{Op: api.OpNum, At: w.at}
	switch w.roll(5) {
	case 0:
		w.put("5")
		x.Plain, x.Value = true, "00000000000000000000000000000101"
	case 1:
		w.put("4294967295")
		x.Plain, x.Value = true, "11111111111111111111111111111111"
	case 2:
		w.put("4'b01xz")
		x.Value = "01xz"
	case 3:
		w.put("2'h5")
		x.Value = "01"
	case 4:
		w.put("32'd5")
		x.Value = "00000000000000000000000000000101"
	}
	return x
}
