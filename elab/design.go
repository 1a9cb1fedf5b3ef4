package elab

import "silkworm/api"

// What a builder throws when it gives up.
type (
	refused api.Diag // the first reason
	endless struct{} // a tree that no source is read as
)

const noClock = -1

// design is a flat design while it is built, and what it is built of.
type design struct {
	api.Flat
	modules   map[string]*api.Module
	instances int
	turns     int // of all fors
}

// build makes the design of the module top. The first reason is thrown as a panic, from however deep within.
func (d *design) build(l []api.Module, top string) (flat api.Flat, reasons []api.Diag) {
	defer func() {
		switch why := recover().(type) {
		case refused:
			reasons = []api.Diag{api.Diag(why)}
		case endless:
			reasons = []api.Diag{{Code: api.ErrArg}}
		}
	}()
	count := counter(0)
	for i := range l {
		count.module(&l[i])
		d.modules[l[i].Name] = &l[i]
	}
	m, there := d.modules[top]
	if !there {
		giveUp(0, api.ErrModule)
	}
	d.top(m)
	return d.Flat, nil
}

func giveUp(at int, code api.Errno) {
	panic(refused{At: at, Code: code})
}

func (d *design) addNet(name string, wide, at int) {
	if len(d.Nets) == api.MaxNets {
		giveUp(at, api.ErrSize)
	}
	d.Nets = append(d.Nets, api.Net{Name: name, Wide: wide, Kind: api.NetOpen})
}

func (d *design) addProc(p api.Proc, at int) {
	if len(d.Procs) == api.MaxFlat {
		giveUp(at, api.ErrSize)
	}
	d.Procs = append(d.Procs, p)
}

// addAssign adds a process that drives one net.
func (d *design) addAssign(target, delay int, value api.Expr, at int) {
	d.addProc(api.Proc{Kind: api.ItAssign, Target: target, Delay: delay, Clock: noClock, Value: value}, at)
	d.Nets[target].Kind = api.NetWire
	if delay > 0 {
		d.Nets[target].Kind = api.NetDelay
	}
}

// addInstance counts one that stands within so many, itself counted.
func (d *design) addInstance(deep, at int) {
	if deep > api.MaxDeep {
		giveUp(at, api.ErrModule)
	}
	if d.instances == api.MaxFlat {
		giveUp(at, api.ErrSize)
	}
	d.instances++
}

// addTurn counts one more of a for that had so many.
func (d *design) addTurn(ahead, at int) {
	if ahead == api.MaxTurns || d.turns == api.MaxFuel {
		giveUp(at, api.ErrSize)
	}
	d.turns++
}
