package syntax

import (
	"silkworm/api"
	"silkworm/lexer"
)

func (p *parser) expr(depth int) api.Expr {
	x := p.binary(depth, 0)
	if !p.sees("?") {
		return x
	}
	at := p.step().At
	yes := p.expr(depth + 1)
	p.need(":")
	return api.Expr{Op: api.OpCond, Kids: []api.Expr{x, yes, p.expr(depth + 1)}, At: at}
}

// binary is an expression whose signs bind no less tightly than the least; what stands behind a sign binds more tightly than that, so that signs of one level are read from the left.
func (p *parser) binary(depth, least int) api.Expr {
	x := p.unary(depth)
	for {
		op, tight := binaryOp(fixed(p.here()))
		if op == 0 || tight < least {
			return x
		}
		at := p.step().At
		x = api.Expr{Op: op, Kids: []api.Expr{x, p.binary(depth, tight+1)}, At: at}
	}
}

func (p *parser) unary(depth int) api.Expr {
	op := unaryOp(fixed(p.here()))
	if op == 0 {
		return p.primary(depth)
	}
	at := p.open(depth).At
	return api.Expr{Op: op, Kids: []api.Expr{p.unary(depth + 1)}, At: at}
}

func (p *parser) primary(depth int) api.Expr {
	t := p.here()
	switch fixed(t) {
	case "(":
		p.open(depth)
		x := p.expr(depth + 1)
		p.need(")")
		return x
	case "{":
		p.open(depth)
		parts := several(p, func() api.Expr { return p.expr(depth + 1) })
		p.need("}")
		return api.Expr{Op: api.OpCat, Kids: parts, At: t.At}
	}
	if t.Kind == api.TokNumber {
		return p.number(depth)
	}
	if !isName(t) {
		panic(wrong(t.At))
	}
	return p.named(depth)
}

func (p *parser) number(depth int) api.Expr {
	t := p.here()
	v, plain, e := lexer.Number(t.Text)
	if e != api.OK {
		panic(wrong(t.At))
	}
	p.open(depth)
	return api.Expr{Op: api.OpNum, Value: v, Plain: plain, At: t.At}
}

func (p *parser) named(depth int) api.Expr {
	t := p.open(depth)
	x := api.Expr{Op: api.OpName, Name: t.Text, At: t.At}
	if !p.takes("[") {
		return x
	}
	x.Op = api.OpBit
	x.Kids = []api.Expr{p.expr(depth + 1)}
	if p.takes(":") {
		x.Op = api.OpPart
		x.Kids = append(x.Kids, p.expr(depth+1))
	}
	p.need("]")
	return x
}
