package lower

import (
	"silkworm/api"
	"silkworm/elab"
	"strings"
)

// own is an expression's own width. Layer 8 is asked for each part with numbers in the place of the parts within it, that are as wide: asked with all that stands within, it would go over a long expression once for each of its signs.
func (b *builder) own(x *api.Expr) int {
	if wide, there := b.wides[x]; there {
		return wide
	}
	alike := *x
	if x.Op != api.OpPart {
		alike.Kids = b.numbersFor(x.Kids)
	}
	wide, why := elab.Wide(alike, b.netsOf(x))
	if why.Code != api.OK {
		giveUp(api.ErrArg)
	}
	b.wides[x] = wide
	return wide
}

func (b *builder) numbersFor(l []api.Expr) []api.Expr {
	out := make([]api.Expr, len(l))
	for i := range l {
		out[i] = api.Expr{Op: api.OpNum, Value: strings.Repeat("0", b.own(&l[i]))}
	}
	return out
}

// netsOf is the net that an expression names, if it does.
func (b *builder) netsOf(x *api.Expr) []api.Net {
	net, there := b.names[x.Name]
	if !there {
		return nil
	}
	return b.flat.Nets[net : net+1]
}
