package lower

import "silkworm/api"

// way is one of a case's: when it is taken, and what it sets. Just one of them is.
type way struct {
	when int
	set  map[int]int
}

// choice does a case. A net needs a choice for those ways alone that set it: one for each arm and each net that any arm sets could be far too many nodes.
func (k *block) choice(x *api.Stmt, now, see known, set map[int]int) {
	ways := k.ways(x, now, see)
	var sets []map[int]int
	for _, w := range ways {
		sets = append(sets, w.set)
	}
	count := setters(sets...)
	last := len(ways) - 1
	for _, net := range inOrder(count) {
		if count[net] == len(ways) {
			set[net] = k.chosen(net, ways[:last], sets[last][net])
		} else {
			set[net] = k.chosen(net, ways, now(net))
		}
	}
}

// chosen is what a net is behind some ways, and the other node, where none of those is taken that set it.
func (k *block) chosen(net int, ways []way, other int) int {
	for _, w := range ways {
		if node, there := w.set[net]; there {
			other = k.choose(w.when, node, other)
		}
	}
	return other
}

// ways is those of the arms, and at the end that of the default, or of none.
func (k *block) ways(x *api.Stmt, now, see known) []way {
	asked := k.asked(x, see)
	never, free := k.constant("0"), k.constant("1")
	var ways []way
	var other map[int]int
	for i := range x.Arms {
		arm := &x.Arms[i]
		if arm.Default {
			other = k.stmts(arm.Body, now)
			continue
		}
		wide := k.needed(x, i)
		hit := k.same(asked[wide], k.expr(&arm.Label, wide, see))
		ways = append(ways, way{when: k.operator(api.OpAnd, 1, hit, free), set: k.stmts(arm.Body, now)})
		free = k.choose(hit, never, free)
	}
	return append(ways, way{when: free, set: other})
}

// asked is the nodes of a case's value, by the widths that its labels need it at.
func (k *block) asked(x *api.Stmt, see known) map[int]int {
	labels := map[int]int{}
	for i := range x.Arms {
		if !x.Arms[i].Default {
			labels[k.needed(x, i)]++
		}
	}
	wides := inOrder(labels)
	if len(wides) == 1 {
		return map[int]int{wides[0]: k.expr(&x.Value, wides[0], see)}
	}
	return k.atEach(&x.Value, wides, see)
}

// needed is how wide a case's value and the label of one of its arms come.
func (k *block) needed(x *api.Stmt, arm int) int {
	return max(k.own(&x.Value), k.own(&x.Arms[arm].Label))
}
