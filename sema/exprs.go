package sema

import "silkworm/api"

// value refuses an expression in which a name stands that has no value.
func (c *checker) value(s *scope, x *api.Expr) {
	c.named(x, func(x *api.Expr) {
		if !isValue(s.kind(x.Name)) {
			giveUp(x.At, api.ErrWord)
		}
	})
}

// named calls a function with each part of an expression that names something, in their order. The bounds of an OpPart are constant places.
func (c *checker) named(x *api.Expr, each func(x *api.Expr)) {
	c.look()
	switch x.Op {
	case api.OpPart:
		each(x)
		return
	case api.OpName, api.OpBit:
		each(x)
	}
	for i := range x.Kids {
		c.named(&x.Kids[i], each)
	}
}
