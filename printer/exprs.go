package printer

import (
	"silkworm/api"
	"strconv"
)

// expr puts an expression that nothing beside it could be read into.
func (w *writer) expr(x api.Expr) {
	w.part(x, loose)
}

// part puts an expression, in brackets if it binds less tightly than it has to.
func (w *writer) part(x api.Expr, least int) {
	w.enter()
	o := operatorOf(x)
	if o.tight >= least {
		w.bare(x, o)
		return
	}
	w.put("(")
	w.bare(x, o)
	w.put(")")
}

func (w *writer) bare(x api.Expr, o operator) {
	switch o.tight {
	case loose:
		w.part(x.Kids[0], binary)
		w.put(o.sign)
		w.expr(x.Kids[1])
		w.put(":")
		w.expr(x.Kids[2])
	case unary:
		w.put(o.sign)
		w.part(x.Kids[0], unary)
	case primary:
		w.primary(x)
	default:
		w.part(x.Kids[0], o.tight)
		w.put(o.sign)
		w.part(x.Kids[1], o.tight+1)
	}
}

func (w *writer) primary(x api.Expr) {
	switch x.Op {
	case api.OpNum:
		w.number(x)
	case api.OpName:
		w.put(x.Name)
	case api.OpBit:
		w.puts(x.Name, "[")
		w.expr(x.Kids[0])
		w.put("]")
	case api.OpPart:
		w.put(x.Name)
		w.bounds(x.Kids[0], x.Kids[1])
	case api.OpCat:
		w.put("{")
		commas(w, x.Kids, w.expr)
		w.put("}")
	}
}

func (w *writer) bounds(hi, lo api.Expr) {
	w.put("[")
	w.expr(hi)
	w.put(":")
	w.expr(lo)
	w.put("]")
}

func (w *writer) number(x api.Expr) {
	if len(x.Value) > api.MaxWide {
		panic(refused{})
	}
	if !x.Plain {
		w.put(strconv.Itoa(len(x.Value)) + "'b" + x.Value)
		return
	}
	n, err := strconv.ParseUint(x.Value, 2, 32)
	if err != nil {
		panic(refused{})
	}
	w.put(strconv.FormatUint(n, 10))
}
