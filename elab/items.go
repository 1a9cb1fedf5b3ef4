package elab

import "silkworm/api"

// items builds those of a scope: all of its names come first, since one may stand ahead of the item that has it.
func (s *scope) items(l []api.Item) {
	for i := range l {
		s.declare(&l[i])
	}
	for i := range l {
		s.item(&l[i])
	}
}

func (s *scope) declare(x *api.Item) {
	switch x.Kind {
	case api.ItLocal:
		s.addConstant(x.Name, s.number(&x.Value))
	case api.ItWire, api.ItReg:
		wide := s.width(x.Ranged, &x.Hi, &x.Lo, x.At)
		for _, name := range x.Names {
			s.addOwnNet(name, wide, x.At)
		}
	}
}

func (s *scope) item(x *api.Item) {
	switch x.Kind {
	case api.ItAssign:
		delay := s.delay(x)
		s.addAssign(s.own(x.Name), delay, s.value(&x.Value), x.At)
	case api.ItComb:
		s.always(x, noClock, api.NetComb)
	case api.ItClock:
		clock, _ := s.find(x.Name)
		s.always(x, clock.n, api.NetReg)
	case api.ItInst:
		s.instance(x)
	case api.ItFor:
		s.loop(x)
	}
}

// delay is an assign's. 0: it has none.
func (s *scope) delay(x *api.Item) int {
	if !x.Timed {
		return 0
	}
	n := s.number(&x.Delay)
	if n < 1 || n > api.MaxDelay {
		giveUp(x.At, api.ErrRange)
	}
	return n
}

// loop unrolls a for. Its condition, and what is next, know its variable, but not the constants of its items.
func (s *scope) loop(x *api.Item) {
	n := s.number(&x.Value)
	head := scope{Scope: s.Within()}
	head.Set(x.Var, n)
	for turns := 0; head.number(&x.While) != 0; turns++ {
		s.addTurn(turns, x.At)
		s.turn(x, n).items(x.Items)
		n = head.number(&x.Next)
		head.Set(x.Var, n)
	}
}
