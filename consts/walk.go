package consts

import (
	"silkworm/api"
	"silkworm/logic"
)

// What a walk throws when it gives up: a place.
type (
	free    int // of what is no constant
	unknown int // of a name that has no number
	over    int // of what comes to too much, or to too little
)

// walk goes over an expression. It keeps the way down to a part itself: a call within a call for each part would end the program at an expression that is deep enough.
type walk struct {
	names map[string]int
	way   []step
	seen  map[*api.Expr]finding // an expression that is small in memory may stand in very many places, or within itself
}

// finding is what is known of an expression that was begun.
type finding struct {
	done   bool
	number int
}

// whole walks over an expression. Whatever has no number is thrown as a panic.
func (w *walk) whole(x *api.Expr) (n int, why api.Diag) {
	defer func() {
		switch at := recover().(type) {
		case free:
			why = api.Diag{At: int(at), Code: api.ErrConst}
		case unknown:
			why = api.Diag{At: int(at), Code: api.ErrWord}
		case over:
			why = api.Diag{At: int(at), Code: api.ErrOver}
		}
	}()
	return w.number(x), api.Diag{}
}

func (w *walk) number(x *api.Expr) int {
	n, ready := w.look(x)
	for !ready || len(w.way) > 0 {
		top := &w.way[len(w.way)-1]
		if ready {
			top.take(n)
		}
		if part := top.next(); part != nil {
			n, ready = w.look(part)
		} else {
			n, ready = w.end(), true
		}
	}
	return n
}

// look is the number of an expression, if it is ready; else a step into it is begun.
func (w *walk) look(x *api.Expr) (n int, ready bool) {
	switch x.Op {
	case api.OpNum:
		return literal(x), true
	case api.OpName:
		return w.named(x), true
	case api.OpBit, api.OpPart, api.OpCat, api.OpNot, api.OpAllR, api.OpAnyR, api.OpXorR:
		panic(free(x.At))
	}
	f, begun := w.seen[x]
	if begun && !f.done {
		panic(free(x.At))
	}
	if !begun {
		w.seen[x] = finding{}
		w.way = append(w.way, step{x: x})
	}
	return f.number, f.done
}

// end leaves a step, all of whose parts were looked at.
func (w *walk) end() int {
	top := w.way[len(w.way)-1]
	n := top.number()
	w.seen[top.x] = finding{done: true, number: n}
	w.way = w.way[:len(w.way)-1]
	return n
}

func (w *walk) named(x *api.Expr) int {
	n, ok := w.names[x.Name]
	if !ok {
		panic(unknown(x.At))
	}
	return n
}

func literal(x *api.Expr) int {
	n, e := logic.Number(x.Value)
	if e != api.OK {
		panic(free(x.At))
	}
	return n
}
