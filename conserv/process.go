package conserv

import (
	"silkworm/api"
	"silkworm/lp"
)

// process is a logical process, and the channels to it and from it.
type process struct {
	*lp.Process
	ins  []*channel
	outs []*channel // by the process that they are to; nil: there is none
	last int        // the horizon and 1
}

// clock is the time ahead of which no event comes to it any more.
func (x *process) clock() int {
	time := x.last
	for i := range len(x.ins) {
		time = min(time, x.ins[i].came)
	}
	return time
}

// bound is the time ahead of which it goes through nothing any more: the lesser one of its next time and its clock.
func (x *process) bound() int {
	clock := x.clock()
	if next, ok := x.Next(); ok {
		return min(next, clock)
	}
	return clock
}

// goOn goes through its next time, if that is safe, and promises what it can.
func (x *process) goOn(of []int) api.Errno {
	if next, ok := x.Next(); ok && next < x.clock() {
		events, e := x.Step()
		if e != api.OK {
			return e
		}
		for _, v := range events {
			x.outs[of[v.Node]].send(v)
		}
	}
	x.promise()
	return api.OK
}

// promise promises on each channel that no event comes ahead of what is still to be gone through, and the way there.
func (x *process) promise() {
	bound := x.bound()
	for k := range len(x.outs) {
		if c := x.outs[k]; c != nil {
			c.pledge(min(bound+c.ahead, x.last))
		}
	}
}
