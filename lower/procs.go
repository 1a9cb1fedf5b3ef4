package lower

import "silkworm/api"

// known tells which node a net is, at a point of a process.
type known func(net int) int

// itself is a net where a process did nothing about it.
func itself(net int) int {
	return net
}

func (b *builder) process(p *api.Proc) {
	count := counter(0)
	count.expr(&p.Value)
	count.stmts(p.Body)
	switch p.Kind {
	case api.ItAssign:
		b.assign(p)
	case api.ItComb:
		k := block{builder: b}
		k.always(p.Body)
	case api.ItClock:
		k := block{builder: b, late: true}
		k.always(p.Body, p.Clock)
	default:
		giveUp(api.ErrArg)
	}
}

func (b *builder) assign(p *api.Proc) {
	if p.Target < 0 || p.Target >= len(b.flat.Nets) {
		giveUp(api.ErrArg)
	}
	wide := b.flat.Nets[p.Target].Wide
	value := b.expr(&p.Value, max(b.own(&p.Value), wide), itself)
	if p.Delay != 0 {
		value = b.fit(value, wide)
	}
	b.nodes[p.Target].Ins = []int{value}
	b.nodes[p.Target].Time = p.Delay
}
