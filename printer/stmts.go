package printer

import "silkworm/api"

// body puts statements of which each list has a begin of its own, so that no else could belong to another if.
func (w *writer) body(l []api.Stmt) {
	w.put("begin")
	for _, s := range l {
		w.stmt(s)
	}
	w.put("end")
}

func (w *writer) stmt(s api.Stmt) {
	switch s.Kind {
	case api.StSet:
		w.set(s, "=")
	case api.StDefer:
		w.set(s, "<=")
	case api.StIf:
		w.branch(s)
	case api.StCase:
		w.choice(s)
	default:
		panic(refused{})
	}
}

func (w *writer) set(s api.Stmt, sign string) {
	w.puts(s.Target, sign)
	w.expr(s.Value)
	w.put(";")
}

func (w *writer) branch(s api.Stmt) {
	w.put("if")
	w.inBrackets(s.Value)
	w.body(s.Body)
	if len(s.Else) > 0 {
		w.put("else")
		w.body(s.Else)
	}
}

func (w *writer) choice(s api.Stmt) {
	w.put("case")
	w.inBrackets(s.Value)
	for _, a := range s.Arms {
		w.arm(a)
	}
	w.put("endcase")
}

func (w *writer) arm(a api.Arm) {
	if a.Default {
		w.put("default")
	} else {
		w.expr(a.Label)
	}
	w.put(":")
	w.body(a.Body)
}

// inBrackets puts an expression whose brackets are not its own.
func (w *writer) inBrackets(x api.Expr) {
	w.put("(")
	w.expr(x)
	w.put(")")
}
