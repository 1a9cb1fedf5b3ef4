package syntax

import "silkworm/api"

// items is those up to the word behind them.
func (p *parser) items(last string, depth int) []api.Item {
	var list []api.Item
	for !p.takes(last) {
		list = append(list, p.item(depth))
	}
	return list
}

func (p *parser) item(depth int) api.Item {
	x := api.Item{Kind: itemKind(p.here())}
	if x.Kind == 0 {
		panic(wrong(p.here().At))
	}
	first := p.open(depth)
	x.At = first.At
	switch x.Kind {
	case api.ItWire, api.ItReg:
		p.wires(&x)
	case api.ItLocal:
		x.Name, x.Value = p.driven()
	case api.ItAssign:
		p.assign(&x)
	case api.ItComb:
		p.always(&x)
	case api.ItInst:
		x.Module = first.Text
		p.instance(&x)
	case api.ItFor:
		p.loop(&x, depth)
	}
	return x
}

// itemKind is which item a token begins; an always is one without a clock until its clock is read. 0: none.
func itemKind(t api.Token) int {
	switch fixed(t) {
	case "wire":
		return api.ItWire
	case "reg":
		return api.ItReg
	case "localparam":
		return api.ItLocal
	case "assign":
		return api.ItAssign
	case "always":
		return api.ItComb
	case "for":
		return api.ItFor
	}
	if isName(t) {
		return api.ItInst
	}
	return 0
}

func (p *parser) wires(x *api.Item) {
	x.Ranged, x.Hi, x.Lo = p.span()
	x.Names = several(p, p.name)
	p.need(";")
}

// driven is a name, what it is to be, and the end of the item.
func (p *parser) driven() (string, api.Expr) {
	name := p.name()
	p.need("=")
	value := p.expr(1)
	p.need(";")
	return name, value
}

func (p *parser) assign(x *api.Item) {
	if p.takes("#") {
		x.Timed = true
		x.Delay = p.primary(1)
	}
	x.Name, x.Value = p.driven()
}

func (p *parser) always(x *api.Item) {
	p.need("@")
	p.need("(")
	if p.takes("posedge") {
		x.Kind = api.ItClock
		x.Name = p.name()
	} else {
		p.need("*")
	}
	p.need(")")
	x.Body = p.stmt(1)
}

func (p *parser) instance(x *api.Item) {
	if p.takes("#") {
		p.need("(")
		x.Params = several(p, p.bind)
		p.need(")")
	}
	x.Name = p.name()
	p.need("(")
	if !p.sees(")") {
		x.Ports = several(p, p.bind)
	}
	p.need(")")
	p.need(";")
}

func (p *parser) loop(x *api.Item, depth int) {
	p.need("(")
	x.Var = p.name()
	p.need("=")
	x.Value = p.expr(1)
	p.need(";")
	x.While = p.expr(1)
	p.need(";")
	again := p.here().At
	if p.name() != x.Var {
		panic(wrong(again))
	}
	p.need("=")
	x.Next = p.expr(1)
	p.need(")")
	p.need("begin")
	p.need(":")
	x.Name = p.name()
	x.Items = p.items("end", depth+1)
}
