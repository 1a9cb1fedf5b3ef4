package elab

import (
	"silkworm/api"
	"silkworm/logic"
)

// plainWide is how many bits a number without a width has.
const plainWide = 32

// value is an expression with the names of the design's nets, and with numbers in the place of constants.
func (s *scope) value(x *api.Expr) api.Expr {
	out, _ := s.expr(x)
	return out
}

// expr is an expression likewise, and its own width.
func (s *scope) expr(x *api.Expr) (api.Expr, int) {
	switch x.Op {
	case api.OpName:
		return s.name(x)
	case api.OpPart:
		return s.part(x)
	}
	out := api.Expr{Op: x.Op, Value: x.Value, Plain: x.Plain, At: x.At}
	var wides []int
	out.Kids, wides = s.exprs(x.Kids)
	if x.Op == api.OpBit {
		out.Name = s.netOf(x).Name
	}
	wide, e := ownWidth(x, wides)
	if e != api.OK {
		giveUp(x.At, e)
	}
	return out, wide
}

func (s *scope) exprs(l []api.Expr) (out []api.Expr, wides []int) {
	if len(l) == 0 {
		return nil, nil
	}
	out, wides = make([]api.Expr, len(l)), make([]int, len(l))
	for i := range l {
		out[i], wides[i] = s.expr(&l[i])
	}
	return out, wides
}

func (s *scope) name(x *api.Expr) (api.Expr, int) {
	m, _ := s.find(x.Name)
	if !m.isNet {
		return plain(m.n, x.At), plainWide
	}
	net := &s.Nets[m.n]
	return api.Expr{Op: api.OpName, Name: net.Name, At: x.At}, net.Wide
}

// part looks at the name ahead of the bounds, which are constant places.
func (s *scope) part(x *api.Expr) (api.Expr, int) {
	net := s.netOf(x)
	if !counted(x) {
		giveUp(x.At, api.ErrConst)
	}
	hi := s.number(&x.Kids[0])
	lo := s.number(&x.Kids[1])
	if !within(hi, lo, net.Wide) {
		giveUp(x.At, api.ErrIndex)
	}
	bounds := []api.Expr{plain(hi, x.Kids[0].At), plain(lo, x.Kids[1].At)}
	return api.Expr{Op: api.OpPart, Name: net.Name, Kids: bounds, At: x.At}, hi - lo + 1
}

// netOf is the net of which an expression is a bit, or a part.
func (s *scope) netOf(x *api.Expr) *api.Net {
	m, _ := s.find(x.Name)
	if !m.isNet {
		giveUp(x.At, api.ErrConst)
	}
	return &s.Nets[m.n]
}

// plain is a number, modulo 2^32, as an expression.
func plain(n, at int) api.Expr {
	bits, _ := logic.Of(n&(1<<plainWide-1), plainWide)
	return api.Expr{Op: api.OpNum, Value: bits, Plain: true, At: at}
}
