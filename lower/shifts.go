package lower

import (
	"silkworm/api"
	"silkworm/logic"
	"slices"
	"strings"
)

// Where a bit stands while it is shifted, as a number of slideWide bits: from slideStart on no way of at most MaxNodes shifts leads beyond 0, or beyond the width.
const (
	slideWide  = 23
	slideStart = 1 << 21
)

// slide is many shifts as three, by nodes: down, up, and down again. A bit that one of the shifts takes beyond an end is gone, also if the next one goes back.
type slide struct {
	base           int // the shape that is shifted
	known          int // whether all are, by how much it is shifted
	down, up, back int
}

// countShifts counts the shifts at the end of a shape.
func (v *value) countShifts(id int) {
	s := v.shapes[id]
	if v.class(id) != free || s.op != api.OpShl && s.op != api.OpShr {
		return
	}
	f, ahead := &v.facts[id], v.facts[s.parts[0]]
	f.downs, f.ups = ahead.downs, ahead.ups
	if s.op == api.OpShr {
		f.downs++
	} else {
		f.ups++
	}
}

// moved is the node of a shape that is shifted and can't be cut: shift by shift, or, if that is fewer nodes in all, by a slide.
func (v *value) moved(id, wide int) int {
	s, f := v.shapes[id], v.facts[id]
	shifts, atEnd := f.downs+f.ups, 3
	if f.downs == 0 || f.ups == 0 {
		atEnd = 1
	}
	if shifts*v.many <= 10*shifts+atEnd*v.many {
		return v.operator(s.op, wide, v.at(s.parts[0], wide), s.node)
	}
	m, there := v.slides[id]
	if !there {
		m = v.slideOf(id)
		v.slides[id] = m
	}
	from := v.knownBase(m, wide)
	if f.downs == 0 {
		return v.operator(api.OpShl, wide, from, m.up)
	}
	from = v.operator(api.OpShr, wide, from, m.down)
	if f.ups == 0 {
		return from
	}
	return v.operator(api.OpShr, wide, v.operator(api.OpShl, wide, from, m.up), m.back)
}

// knownBase is what is shifted: x in all bits, if one of the shifts is by what is not known.
func (v *value) knownBase(m slide, wide int) int {
	most := wide
	if v.class(m.base) != free {
		most = v.most
	}
	unknown := v.constant(strings.Repeat("x", most))
	return v.fit(v.choose(m.known, v.at(m.base, most), unknown), wide)
}

// slideOf goes the way of a bit: where it begins, the lowest and the highest it comes to, and where it ends.
func (v *value) slideOf(id int) slide {
	var steps []shape
	for v.facts[id].downs+v.facts[id].ups > 0 {
		steps = append(steps, v.shapes[id])
		id = v.shapes[id].parts[0]
	}
	slices.Reverse(steps)
	far, known := v.amounts(steps)
	start := v.numeral(slideStart)
	at, low, high := start, start, start
	for i, s := range steps {
		turns := i+1 == len(steps) || steps[i+1].op != s.op
		op, end := api.OpAdd, &high
		if s.op == api.OpShr {
			op, end = api.OpSub, &low
		}
		at = v.operator(op, slideWide, at, far[i])
		if turns {
			*end = v.further(s.op, at, *end)
		}
	}
	between := func(one, other int) int { return v.operator(api.OpSub, slideWide, one, other) }
	return slide{base: id, known: known, down: between(start, low), up: between(high, low), back: between(high, at)}
}

// further is the one of two numbers that lies further in the direction of a shift.
func (v *value) further(op, one, other int) int {
	than := api.OpGt
	if op == api.OpShr {
		than = api.OpLt
	}
	return v.choose(v.operator(than, 1, one, other), one, other)
}

// amounts is how far each step goes, and whether all are known. What stands ahead of the last one that is not known counts for nothing: that one makes all bits x.
func (v *value) amounts(steps []shape) (far []int, known int) {
	far = make([]int, len(steps))
	known = v.constant("1")
	for i := len(steps) - 1; i >= 0; i-- {
		by := steps[i].node
		lost := v.same(v.operator(api.OpXorR, 1, by), v.constant("x"))
		known = v.choose(lost, v.constant("0"), known)
		far[i] = v.choose(known, v.bounded(by), v.numeral(0))
	}
	return far, known
}

// bounded is how far is shifted, but not further than no bit stays.
func (v *value) bounded(by int) int {
	wide := v.nodes[by].Wide
	far := v.fit(by, slideWide)
	if wide <= 8 {
		return far
	}
	all, _ := logic.Of(api.MaxWide, wide)
	return v.choose(v.operator(api.OpLt, 1, by, v.constant(all)), far, v.numeral(api.MaxWide))
}

func (v *value) numeral(n int) int {
	bits, _ := logic.Of(n, slideWide)
	return v.constant(bits)
}
