package syntax

import "silkworm/api"

// stmt is a list, since a begin leaves nothing behind but its statements.
func (p *parser) stmt(depth int) []api.Stmt {
	t := p.here()
	switch fixed(t) {
	case "begin":
		p.open(depth)
		return p.block(depth + 1)
	case "if":
		p.open(depth)
		return []api.Stmt{p.branch(t.At, depth+1)}
	case "case":
		p.open(depth)
		return []api.Stmt{p.choice(t.At, depth+1)}
	}
	if !isName(t) {
		panic(wrong(t.At))
	}
	p.open(depth)
	return []api.Stmt{p.assignment(t)}
}

func (p *parser) block(depth int) []api.Stmt {
	var list []api.Stmt
	for !p.takes("end") {
		list = append(list, p.stmt(depth)...)
	}
	return list
}

func (p *parser) branch(at, depth int) api.Stmt {
	x := api.Stmt{Kind: api.StIf, Value: p.inBrackets(), At: at}
	x.Body = p.stmt(depth)
	if p.takes("else") {
		x.Else = p.stmt(depth)
	}
	return x
}

func (p *parser) choice(at, depth int) api.Stmt {
	x := api.Stmt{Kind: api.StCase, Value: p.inBrackets(), At: at}
	for !p.sees("default") && !p.sees("endcase") {
		label := p.expr(1)
		x.Arms = append(x.Arms, api.Arm{Label: label, Body: p.armBody(depth)})
	}
	if p.takes("default") {
		x.Arms = append(x.Arms, api.Arm{Default: true, Body: p.armBody(depth)})
	}
	p.need("endcase")
	return x
}

func (p *parser) armBody(depth int) []api.Stmt {
	p.need(":")
	return p.stmt(depth)
}

func (p *parser) assignment(target api.Token) api.Stmt {
	x := api.Stmt{Kind: api.StSet, Target: target.Text, At: target.At}
	if p.takes("<=") {
		x.Kind = api.StDefer
	} else {
		p.need("=")
	}
	x.Value = p.expr(1)
	p.need(";")
	return x
}
