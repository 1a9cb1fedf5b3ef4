package lower

import "silkworm/api"

// way is one of a case's: when it is taken, and what it sets. Just one of them is.
type way struct {
	when int
	set  map[int]int
}

// choice does a case. A net needs a choice for those ways alone that set it: one for each arm and each net that any arm sets could be far too many nodes.
func (k *block) choice(x *api.Stmt, now, see known, set map[int]int) {
	ways := k.ways(x, now, see)
	var sets []map[int]int
	for _, w := range ways {
		sets = append(sets, w.set)
	}
	count := setters(sets...)
	last := len(ways) - 1
	for _, net := range inOrder(count) {
		if count[net] == len(ways) {
			set[net] = k.chosen(net, ways[:last], sets[last][net])
		} else {
			set[net] = k.chosen(net, ways, now(net))
		}
	}
}

// chosen is what a net is behind some ways, and the other node, where none of those is taken that set it.
func (k *block) chosen(net int, ways []way, other int) int {
	for _, w := range ways {
		if node, there := w.set[net]; there {
			other = k.choose(w.when, node, other)
		}
	}
	return other
}

// ways is those of the arms, and at the end that of the default, or of none.
func (k *block) ways(x *api.Stmt, now, see known) []way {
	asked := k.asked(x, see)
	never, free := k.constant("0"), k.constant("1")
	var ways []way
	var other map[int]int
	for i := range x.Arms {
		arm := &x.Arms[i]
		if arm.Default {
			other = k.stmts(arm.Body, now)
			continue
		}
		wide := max(k.own(&x.Value), k.own(&arm.Label))
		hit := k.same(asked(wide), k.expr(&arm.Label, wide, see))
		ways = append(ways, way{when: k.operator(api.OpAnd, 1, hit, free), set: k.stmts(arm.Body, now)})
		free = k.choose(hit, never, free)
	}
	return append(ways, way{when: free, set: other})
}

// asked gives the value of a case as wide as a label needs it. What can be cut is made once, as wide as any of them needs it: labels of many widths would make a long value many times.
func (k *block) asked(x *api.Stmt, see known) func(wide int) int {
	most := k.own(&x.Value)
	for i := range x.Arms {
		if !x.Arms[i].Default {
			most = max(most, k.own(&x.Arms[i].Label))
		}
	}
	made := map[int]int{}
	var give func(wide int) int
	give = func(wide int) int {
		node, there := made[wide]
		switch {
		case there:
			return node
		case wide < most && canBeCut(&x.Value):
			node = k.fit(give(most), wide)
		default:
			node = k.expr(&x.Value, wide, see)
		}
		made[wide] = node
		return node
	}
	return give
}
