package syntax

import "silkworm/api"

func (p *parser) module() api.Module {
	m := api.Module{At: p.here().At}
	p.need("module")
	m.Name = p.name()
	if p.takes("#") {
		p.need("(")
		m.Params = several(p, p.param)
		p.need(")")
	}
	p.need("(")
	if !p.sees(")") {
		m.Ports = several(p, p.port)
	}
	p.need(")")
	p.need(";")
	m.Items = p.items("endmodule", 1)
	return m
}

func (p *parser) param() api.Bind {
	p.need("parameter")
	at := p.here().At
	name := p.name()
	p.need("=")
	return api.Bind{Name: name, Value: p.expr(1), At: at}
}

func (p *parser) port() api.Port {
	x := api.Port{At: p.here().At}
	if !p.takes("input") {
		p.need("output")
		x.Out = true
		x.Reg = p.takes("reg")
	}
	x.Ranged, x.Hi, x.Lo = p.span()
	x.Name = p.name()
	return x
}

// span is a range, if one comes next.
func (p *parser) span() (ranged bool, hi, lo api.Expr) {
	if !p.takes("[") {
		return false, hi, lo
	}
	hi = p.expr(1)
	p.need(":")
	lo = p.expr(1)
	p.need("]")
	return true, hi, lo
}

func (p *parser) bind() api.Bind {
	x := api.Bind{At: p.here().At}
	p.need(".")
	x.Name = p.name()
	x.Value = p.inBrackets()
	return x
}

// inBrackets is an expression whose brackets are not its own, so that it is at depth 1.
func (p *parser) inBrackets() api.Expr {
	p.need("(")
	x := p.expr(1)
	p.need(")")
	return x
}
