package sema

import "silkworm/api"

// process is an always in its scope.
type process struct {
	*checker
	scope   *scope
	clocked bool
	targets names
}

func (c *checker) always(s *scope, x *api.Item) {
	p := process{checker: c, scope: s, clocked: x.Kind == api.ItClock, targets: names{}}
	if p.clocked && !isNet(s.kind(x.Name)) {
		giveUp(x.At, api.ErrWord)
	}
	p.stmts(x.Body)
	for name := range p.targets {
		s.drive(name, x.At)
	}
	if !p.clocked {
		p.keepsNothing(x)
	}
}

func (p *process) stmts(l []api.Stmt) {
	for i := range l {
		p.stmt(&l[i])
	}
}

func (p *process) stmt(x *api.Stmt) {
	p.look()
	switch x.Kind {
	case api.StSet, api.StDefer:
		p.assignment(x)
	case api.StIf:
		p.value(p.scope, &x.Value)
		p.stmts(x.Body)
		p.stmts(x.Else)
	case api.StCase:
		p.value(p.scope, &x.Value)
		for i := range x.Arms {
			p.arm(&x.Arms[i])
		}
	}
}

func (p *process) assignment(x *api.Stmt) {
	if p.clocked != (x.Kind == api.StDefer) {
		giveUp(x.At, api.ErrBlock)
	}
	p.scope.target(x.Target, reg, x.At, x.At)
	p.targets.add(x.Target, reg)
	p.value(p.scope, &x.Value)
}

func (p *process) arm(a *api.Arm) {
	p.look()
	if !a.Default {
		p.value(p.scope, &a.Label)
	}
	p.stmts(a.Body)
}
