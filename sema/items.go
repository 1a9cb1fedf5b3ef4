package sema

import "silkworm/api"

// items looks at those of a scope: all of their names come first, since a name may stand ahead of the item that has it.
func (c *checker) items(s *scope, l []api.Item) {
	for i := range l {
		c.itemNames(s, &l[i])
	}
	for i := range l {
		c.item(s, &l[i])
	}
}

func (c *checker) item(s *scope, x *api.Item) {
	c.look()
	switch x.Kind {
	case api.ItAssign:
		s.target(x.Name, wire, x.At, x.At)
		s.drive(x.Name, x.At)
		c.value(s, &x.Value)
	case api.ItComb, api.ItClock:
		c.always(s, x)
	case api.ItInst:
		c.instance(s, x)
	case api.ItFor:
		c.loop(s, x)
	}
}

func (c *checker) loop(s *scope, x *api.Item) {
	in := newScope(s)
	c.declare(in, x.Var, constant, x.At)
	c.items(in, x.Items)
}

func (c *checker) instance(s *scope, x *api.Item) {
	m, there := c.modules[x.Module]
	if !there {
		giveUp(x.At, api.ErrModule)
	}
	bound := names{}
	for i := range x.Params {
		c.bind(&x.Params[i], m.params, bound, api.ErrWord)
	}
	bound = names{}
	for i := range x.Ports {
		b := &x.Ports[i]
		if c.bind(b, m.ports, bound, api.ErrPort) == input {
			c.value(s, &b.Value)
		} else {
			s.output(b)
		}
	}
}

// bind is what the name of a bind is in its module, of which some were bound ahead.
func (c *checker) bind(b *api.Bind, there, bound names, code api.Errno) int {
	c.look()
	kind := there[b.Name]
	if kind == 0 || !bound.add(b.Name, kind) {
		giveUp(b.At, code)
	}
	return kind
}

func (s *scope) output(b *api.Bind) {
	if b.Value.Op != api.OpName {
		giveUp(b.At, api.ErrTarget)
	}
	s.target(b.Value.Name, wire, b.Value.At, b.At)
	s.drive(b.Value.Name, b.At)
}
