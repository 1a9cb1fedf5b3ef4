package elab

import (
	"silkworm/api"
	"silkworm/logic"
)

// walk goes over an expression. It keeps the way down to a part itself: a call within a call for each part would end the program at an expression that is deep enough.
type walk struct {
	nets  map[string]int // widths by names
	way   []step
	wides []int                 // of the parts that were looked at, and whose expression was not
	seen  map[*api.Expr]finding // an expression that is small in memory may stand in very many places, or within itself
}

// step is an expression of whose parts so many were looked at.
type step struct {
	x     *api.Expr
	count int
}

// finding is what is known of an expression that was begun.
type finding struct {
	done bool
	wide int
}

// widthsOf is the widths of nets by their names, of which the first one counts.
func widthsOf(nets []api.Net) map[string]int {
	wides := map[string]int{}
	for i := range nets {
		if _, there := wides[nets[i].Name]; !there {
			wides[nets[i].Name] = nets[i].Wide
		}
	}
	return wides
}

func (w *walk) whole(x *api.Expr) (int, api.Diag) {
	why := w.look(x)
	for len(w.way) > 0 && why.Code == api.OK {
		top := &w.way[len(w.way)-1]
		if top.count < len(top.x.Kids) {
			top.count++
			why = w.look(&top.x.Kids[top.count-1])
		} else {
			why = w.end()
		}
	}
	if why.Code != api.OK {
		return 0, why
	}
	return w.wides[0], api.Diag{}
}

// look begins a step into an expression, unless its width is known, or hangs on no parts.
func (w *walk) look(x *api.Expr) api.Diag {
	if len(x.Kids) == 0 {
		return w.take(x)
	}
	f, begun := w.seen[x]
	switch {
	case !begun:
		w.seen[x] = finding{}
		w.way = append(w.way, step{x: x})
	case !f.done:
		return api.Diag{At: x.At, Code: api.ErrConst}
	default:
		w.wides = append(w.wides, f.wide)
	}
	return api.Diag{}
}

// take lets the widths of an expression's parts give way to its own.
func (w *walk) take(x *api.Expr) api.Diag {
	ahead := len(w.wides) - len(x.Kids)
	wide, e := w.width(x, w.wides[ahead:])
	if e != api.OK {
		return api.Diag{At: x.At, Code: e}
	}
	w.wides = append(w.wides[:ahead], wide)
	return api.Diag{}
}

// end leaves a step, all of whose parts were looked at.
func (w *walk) end() api.Diag {
	x := w.way[len(w.way)-1].x
	why := w.take(x)
	if why.Code == api.OK {
		w.seen[x] = finding{done: true, wide: w.wides[len(w.wides)-1]}
		w.way = w.way[:len(w.way)-1]
	}
	return why
}

func (w *walk) width(x *api.Expr, parts []int) (int, api.Errno) {
	if x.Op != api.OpName && x.Op != api.OpBit && x.Op != api.OpPart || !counted(x) {
		return ownWidth(x, parts)
	}
	net, there := w.nets[x.Name]
	switch {
	case !there:
		return 0, api.ErrWord
	case x.Op == api.OpName:
		return net, api.OK
	case x.Op == api.OpPart:
		return partWidth(x, net)
	}
	return 1, api.OK
}

// partWidth is that of a part of a net, whose bounds must be numbers.
func partWidth(x *api.Expr, net int) (int, api.Errno) {
	hi, high := bound(&x.Kids[0])
	lo, low := bound(&x.Kids[1])
	if !high || !low || !within(hi, lo, net) {
		return 0, api.ErrIndex
	}
	return hi - lo + 1, api.OK
}

func bound(x *api.Expr) (n int, ok bool) {
	if x.Op != api.OpNum {
		return 0, false
	}
	n, e := logic.Number(x.Value)
	return n, e == api.OK
}
