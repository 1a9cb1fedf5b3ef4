package printer

import "silkworm/api"

func (w *writer) modules(l []api.Module) {
	for _, m := range l {
		w.module(m)
	}
}

func (w *writer) module(m api.Module) {
	w.puts("module", m.Name)
	if len(m.Params) > 0 {
		w.puts("#", "(")
		commas(w, m.Params, w.param)
		w.put(")")
	}
	w.put("(")
	commas(w, m.Ports, w.port)
	w.puts(")", ";")
	w.items(m.Items)
	w.put("endmodule")
}

func (w *writer) param(b api.Bind) {
	w.put("parameter")
	w.driven(b.Name, b.Value)
}

func (w *writer) port(p api.Port) {
	if p.Out {
		w.put("output")
	} else {
		w.put("input")
	}
	if p.Reg {
		w.put("reg")
	}
	w.span(p.Ranged, p.Hi, p.Lo)
	w.put(p.Name)
}

// span puts a range, if there is one.
func (w *writer) span(ranged bool, hi, lo api.Expr) {
	if ranged {
		w.bounds(hi, lo)
	}
}
