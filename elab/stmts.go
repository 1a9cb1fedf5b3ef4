package elab

import "silkworm/api"

// process is an always in its scope.
type process struct {
	*scope
	drives int // the kind of the nets that it drives
}

func (s *scope) always(x *api.Item, clock, drives int) {
	p := process{scope: s, drives: drives}
	s.addProc(api.Proc{Kind: x.Kind, Clock: clock, Body: p.stmts(x.Body)}, x.At)
}

func (p *process) stmts(l []api.Stmt) []api.Stmt {
	var out []api.Stmt
	for i := range l {
		out = append(out, p.stmt(&l[i]))
	}
	return out
}

func (p *process) stmt(x *api.Stmt) api.Stmt {
	out := api.Stmt{Kind: x.Kind, At: x.At}
	switch x.Kind {
	case api.StSet, api.StDefer:
		out.Target = p.target(x.Target)
		out.Value = p.value(&x.Value)
	case api.StIf:
		out.Value = p.value(&x.Value)
		out.Body = p.stmts(x.Body)
		out.Else = p.stmts(x.Else)
	case api.StCase:
		out.Value = p.value(&x.Value)
		out.Arms = p.arms(x.Arms)
	}
	return out
}

func (p *process) arms(l []api.Arm) []api.Arm {
	var out []api.Arm
	for i := range l {
		a := api.Arm{Default: l[i].Default}
		if !a.Default {
			a.Label = p.value(&l[i].Label)
		}
		a.Body = p.stmts(l[i].Body)
		out = append(out, a)
	}
	return out
}

// target is the name in the design of what is assigned.
func (p *process) target(name string) string {
	net := &p.Nets[p.own(name)]
	net.Kind = p.drives
	return net.Name
}
