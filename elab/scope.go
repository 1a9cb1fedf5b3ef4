package elab

import (
	"silkworm/api"
	"silkworm/consts"
	"strconv"
)

// meaning is what a name stands for: a net, or a constant.
type meaning struct {
	isNet bool
	n     int // the net's place in the design, or the constant's number
}

// place is that of a module: the top's, or an instance's.
type place struct {
	*design
	deep int // how many instances are around what stands there
}

// scope is the items of a module in its place, or of a turn of a for there. What is around is embedded: the place, with the design, and the constants of all scopes around, of which nets hide none in constant places.
type scope struct {
	*place
	*consts.Scope
	around *scope // nil: it is a module's
	path   string // what is ahead of its nets' names
	names  map[string]meaning
}

func (d *design) newScope(path string, deep int) *scope {
	return &scope{place: &place{design: d, deep: deep}, Scope: consts.New(), path: path, names: map[string]meaning{}}
}

// turn is the scope of a for's turn, in which its variable has a number.
func (s *scope) turn(x *api.Item, n int) *scope {
	path := s.path + x.Name + "[" + strconv.Itoa(n) + "]."
	in := &scope{place: s.place, Scope: s.Within(), around: s, path: path, names: map[string]meaning{}}
	in.addConstant(x.Var, n)
	return in
}

// find is what a name stands for in the innermost scope that has it.
func (s *scope) find(name string) (m meaning, there bool) {
	for ; s != nil && !there; s = s.around {
		m, there = s.names[name]
	}
	return m, there
}

// own is which net of the design a name of this very scope stands for.
func (s *scope) own(name string) int {
	return s.names[name].n
}

func (s *scope) addConstant(name string, n int) {
	s.Set(name, n)
	s.names[name] = meaning{n: n}
}

func (s *scope) addOwnNet(name string, wide, at int) {
	s.addNet(s.path+name, wide, at)
	s.names[name] = meaning{isNet: true, n: len(s.Nets) - 1}
}

// number is that of an expression in a constant place.
func (s *scope) number(x *api.Expr) int {
	n, why := s.Eval(*x)
	if why.Code != api.OK {
		panic(refused(why))
	}
	return n
}

// width is that of a port, or of the nets of an item, at a place.
func (s *scope) width(ranged bool, hi, lo *api.Expr, at int) int {
	if !ranged {
		return 1
	}
	high := s.number(hi)
	low := s.number(lo)
	if low != 0 || high < 0 || high >= api.MaxWide {
		giveUp(at, api.ErrRange)
	}
	return high + 1
}
