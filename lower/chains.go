package lower

import (
	"silkworm/api"
	"slices"
)

// addend is a shape of a sum, and how often it goes in: below 0, if it is taken away.
type addend struct {
	id, times int
}

// sum is a sum's shape, in which all that are alike stand together.
func (v *value) sum(x *api.Expr) int {
	var all []addend
	at := map[int]int{}
	var add func(x *api.Expr, sign int)
	add = func(x *api.Expr, sign int) {
		switch x.Op {
		case api.OpNeg:
			add(&x.Kids[0], -sign)
			return
		case api.OpAdd, api.OpSub:
			add(&x.Kids[0], sign)
			if x.Op == api.OpSub {
				sign = -sign
			}
			add(&x.Kids[1], sign)
			return
		}
		id := v.read(x)
		if _, there := at[id]; !there {
			at[id] = len(all)
			all = append(all, addend{id: id})
		}
		all[at[id]].times += sign
	}
	add(x, 1)
	others := slices.DeleteFunc(slices.Clone(all), func(a addend) bool { return v.class(a.id) >= alike })
	if len(others) < len(all) {
		once := slices.DeleteFunc(all, func(a addend) bool { return v.class(a.id) < alike })
		others = append(others, addend{id: v.added(once), times: 1})
	}
	return v.asSum(v.added(others))
}

// asSum is a sum that came to one shape alone: that is x in all bits, too, if one of them is not known.
func (v *value) asSum(id int) int {
	switch v.shapes[id].op {
	case api.OpNeg, api.OpAdd, api.OpSub:
		return id
	}
	return v.times(v.times(id, -1), -1)
}

// added is the sum of some shapes: it begins with one that is not taken away, if there is one.
func (v *value) added(list []addend) int {
	first := max(slices.IndexFunc(list, func(a addend) bool { return a.times >= 0 }), 0)
	sum := v.times(list[first].id, list[first].times)
	for i, a := range list {
		switch {
		case i == first:
		case a.times < 0:
			sum = v.shape(api.OpSub, sum, v.times(a.id, -a.times), 0)
		default:
			sum = v.shape(api.OpAdd, sum, v.times(a.id, a.times), 0)
		}
	}
	return sum
}

// times is a shape so often. What goes in as often as it is taken away still is x, where it is not known.
func (v *value) times(id, n int) int {
	switch {
	case n < 0:
		return v.shape(api.OpNeg, v.times(id, -n), 0, 0)
	case n == 0:
		return v.shape(api.OpSub, id, id, 0)
	case n == 1:
		return id
	}
	half := v.times(id, n/2)
	twice := v.shape(api.OpAdd, half, half, 0)
	if n%2 == 0 {
		return twice
	}
	return v.shape(api.OpAdd, twice, id, 0)
}

// joined is the shapes that one operator joins bit by bit.
func (v *value) joined(op int, x *api.Expr, list []int) []int {
	if x.Op != op {
		return append(list, v.read(x))
	}
	return v.joined(op, &x.Kids[1], v.joined(op, &x.Kids[0], list))
}

// join is the shape of some joined ones: those that can be cut stand together, and those that are shifted as far are so as one.
func (v *value) join(op int, list []int) int {
	list = fewer(op, list)
	var once, others []int
	shifted := map[shape][]int{}
	for _, id := range list {
		s := v.shapes[id]
		switch {
		case v.class(id) != free:
			once = append(once, id)
		case s.op == api.OpShl || s.op == api.OpShr:
			by := shape{op: s.op, node: s.node}
			shifted[by] = append(shifted[by], s.parts[0])
		default:
			others = append(others, id)
		}
	}
	for _, id := range list {
		by := shape{op: v.shapes[id].op, node: v.shapes[id].node}
		if l := shifted[by]; v.class(id) == free && len(l) > 0 {
			others = append(others, v.shape(by.op, v.join(op, l), 0, by.node))
			delete(shifted, by)
		}
	}
	out := append(once, others...)
	for _, id := range out[1:] {
		out[0] = v.shape(op, out[0], id, 0)
	}
	return out[0]
}

// fewer is the shapes that are enough to be joined: each once, if that is the same. One alone is joined with itself, since z becomes x by that; of OpXor two are nought, where they are known.
func fewer(op int, list []int) []int {
	count := map[int]int{}
	for _, id := range list {
		count[id]++
	}
	var out []int
	for _, id := range list {
		n := count[id]
		count[id] = 0
		switch {
		case op == api.OpXor && n%2 == 0:
			n = min(n, 2)
		case n == len(list):
			n = min(n, 3)
		default:
			n = min(n, 1)
		}
		out = append(out, slices.Repeat([]int{id}, n)...)
	}
	return out
}
