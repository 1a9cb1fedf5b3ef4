package lower

import (
	"maps"
	"silkworm/api"
	"slices"
)

// block is an always, whose statements are done one behind the other.
type block struct {
	*builder
	late bool // what is set is seen only when all is done: behind the rise of a clock
}

// always does all statements: what they set goes into the nets, behind a clock, if there is one.
func (k *block) always(body []api.Stmt, clock ...int) {
	set := k.stmts(body, itself)
	for _, net := range inOrder(set) {
		k.nodes[net].Ins = append(slices.Clone(clock), set[net])
	}
}

// inOrder is nets by their numbers: the order of nodes must not hang on that of a map.
func inOrder(nets map[int]int) []int {
	return slices.Sorted(maps.Keys(nets))
}

// stmts does statements, behind what is known ahead of them, and tells the nets that they set, with their nodes.
func (k *block) stmts(l []api.Stmt, ahead known) map[int]int {
	set := map[int]int{}
	now := func(net int) int {
		if node, there := set[net]; there {
			return node
		}
		return ahead(net)
	}
	for i := range l {
		k.stmt(&l[i], now, set)
	}
	return set
}

func (k *block) stmt(x *api.Stmt, now known, set map[int]int) {
	see := now
	if k.late {
		see = itself
	}
	switch x.Kind {
	case api.StSet, api.StDefer:
		net := k.named(x.Target)
		wide := k.flat.Nets[net].Wide
		set[net] = k.fit(k.expr(&x.Value, max(k.own(&x.Value), wide), see), wide)
	case api.StIf:
		k.branch(x, now, see, set)
	case api.StCase:
		k.choice(x, now, see, set)
	default:
		giveUp(api.ErrArg)
	}
}

// branch does an if: what one of its bodies does not set is there what it was ahead.
func (k *block) branch(x *api.Stmt, now, see known, set map[int]int) {
	when := k.alone(&x.Value, see)
	yes, no := k.stmts(x.Body, now), k.stmts(x.Else, now)
	for _, net := range inOrder(setters(yes, no)) {
		set[net] = k.choose(when, orAhead(yes, net, now), orAhead(no, net, now))
	}
}

// setters is the nets that are set, and on how many ways.
func setters(ways ...map[int]int) map[int]int {
	count := map[int]int{}
	for _, set := range ways {
		for net := range set {
			count[net]++
		}
	}
	return count
}

// orAhead is what a net was set to, or what it was ahead.
func orAhead(set map[int]int, net int, ahead known) int {
	if node, there := set[net]; there {
		return node
	}
	return ahead(net)
}
