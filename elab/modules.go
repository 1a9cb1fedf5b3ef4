package elab

import "silkworm/api"

func (d *design) top(m *api.Module) {
	s := d.newScope("", 0)
	s.params(m.Params, nil, nil)
	s.ports(m.Ports)
	for i := range m.Ports {
		if !m.Ports[i].Out {
			d.Nets[i].Kind = api.NetIn
		}
	}
	d.Ports = len(m.Ports)
	s.items(m.Items)
}

// instance puts a module in its place within this scope.
func (s *scope) instance(x *api.Item) {
	s.addInstance(s.deep+1, x.At)
	m := s.modules[x.Module]
	in := s.newScope(s.path+x.Name+".", s.deep+1)
	in.params(m.Params, x.Params, s)
	in.ports(m.Ports)
	s.binds(x, m.Ports, in)
	in.items(m.Items)
}

// params gives parameters their numbers: those that are bound by what stands in the scope around.
func (s *scope) params(l, binds []api.Bind, around *scope) {
	bound := byName(binds)
	for i := range l {
		if at, there := bound[l[i].Name]; there {
			s.addConstant(l[i].Name, around.number(&binds[at].Value))
		} else {
			s.addConstant(l[i].Name, s.number(&l[i].Value))
		}
	}
}

func (s *scope) ports(l []api.Port) {
	for i := range l {
		p := &l[i]
		s.addOwnNet(p.Name, s.width(p.Ranged, &p.Hi, &p.Lo, p.At), p.At)
	}
}

// binds adds an assign for each port of an instance that is bound: from this scope into the instance's, or out of it.
func (s *scope) binds(x *api.Item, ports []api.Port, in *scope) {
	bound := byName(x.Ports)
	for i := range ports {
		at, there := bound[ports[i].Name]
		if !there {
			continue
		}
		b, inner := &x.Ports[at], in.own(ports[i].Name)
		if ports[i].Out {
			out := api.Expr{Op: api.OpName, Name: s.Nets[inner].Name, At: b.At}
			s.addAssign(s.own(b.Value.Name), 0, out, x.At)
		} else {
			s.addAssign(inner, 0, s.value(&b.Value), x.At)
		}
	}
}

// byName is where in a list the bind of each name stands.
func byName(l []api.Bind) map[string]int {
	places := map[string]int{}
	for i := range l {
		places[l[i].Name] = i
	}
	return places
}
