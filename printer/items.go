package printer

import "silkworm/api"

func (w *writer) items(l []api.Item) {
	for _, x := range l {
		w.item(x)
	}
}

func (w *writer) item(x api.Item) {
	switch x.Kind {
	case api.ItWire:
		w.wires("wire", x)
	case api.ItReg:
		w.wires("reg", x)
	case api.ItLocal:
		w.put("localparam")
		w.driven(x.Name, x.Value)
		w.put(";")
	case api.ItAssign:
		w.assign(x)
	case api.ItComb:
		w.puts("always", "@", "(", "*", ")")
		w.body(x.Body)
	case api.ItClock:
		w.puts("always", "@", "(", "posedge", x.Name, ")")
		w.body(x.Body)
	case api.ItInst:
		w.instance(x)
	case api.ItFor:
		w.loop(x)
	default:
		panic(refused{})
	}
}

func (w *writer) wires(word string, x api.Item) {
	w.put(word)
	w.span(x.Ranged, x.Hi, x.Lo)
	commas(w, x.Names, w.put)
	w.put(";")
}

// driven puts a name and what it is to be.
func (w *writer) driven(name string, value api.Expr) {
	w.puts(name, "=")
	w.expr(value)
}

func (w *writer) assign(x api.Item) {
	w.put("assign")
	if x.Timed {
		w.put("#")
		w.part(x.Delay, primary)
	}
	w.driven(x.Name, x.Value)
	w.put(";")
}

func (w *writer) instance(x api.Item) {
	w.put(x.Module)
	if len(x.Params) > 0 {
		w.puts("#", "(")
		commas(w, x.Params, w.bind)
		w.put(")")
	}
	w.puts(x.Name, "(")
	commas(w, x.Ports, w.bind)
	w.puts(")", ";")
}

func (w *writer) bind(b api.Bind) {
	w.puts(".", b.Name)
	w.inBrackets(b.Value)
}

func (w *writer) loop(x api.Item) {
	w.puts("for", "(")
	w.driven(x.Var, x.Value)
	w.put(";")
	w.expr(x.While)
	w.put(";")
	w.driven(x.Var, x.Next)
	w.puts(")", "begin", ":", x.Name)
	w.items(x.Items)
	w.put("end")
}
