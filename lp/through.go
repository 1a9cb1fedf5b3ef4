package lp

import "silkworm/api"

// through goes through a time, which is the next one. If too many events would come of it, those that were due are put back, and nothing has changed.
func (x *Process) through(time int) ([]api.Event, api.Errno) {
	due := x.due(time)
	stim, later := x.cut(time)
	values := x.settled(x.values, x.gets(stim, due))
	own, out := x.sends(time, values)
	if x.events.Len()+len(own) > api.MaxQueue {
		x.put(due)
		return nil, api.ErrQueue
	}
	x.put(own)
	x.past = x.past.with(x.changes(time, x.values, values))
	x.made += len(own) + len(out)
	x.done, x.stim, x.values = time, later, values
	return out, api.OK
}

// due takes out the events of a time.
func (x *Process) due(time int) []api.Event {
	var list []api.Event
	for e, ok := x.events.Min(); ok && e.Time == time; e, ok = x.events.Min() {
		x.events.Take()
		list = append(list, e)
	}
	return list
}

// put puts events for which there is room.
func (x *Process) put(list []api.Event) {
	for _, e := range list {
		x.events.Put(e)
	}
}

// cut is what comes of the stimulus at a time, and what comes later.
func (x *Process) cut(time int) ([]api.Change, []api.Change) {
	count := 0
	for count < len(x.stim) && x.stim[count].Time == time {
		count++
	}
	return x.stim[:count], x.stim[count:]
}

// sends is the events of the delays into which something else goes than they had sent last: its own, and those for others. Behind the last time that there is nothing comes.
func (x *Process) sends(time int, values []string) (own, out []api.Event) {
	for _, d := range x.lines {
		v, at := values[d.in], time+d.time
		if v == x.sent(d) || at > api.MaxTime {
			continue
		}
		e := api.Event{Time: at, Node: d.node, Value: v, From: x.number, Seq: x.made + len(own) + len(out) + 1}
		if d.own {
			own = append(own, e)
		} else {
			out = append(out, e)
		}
	}
	return own, out
}

// sent is what a delay has sent last: what went in at the end of the time ahead, since all of that is sent.
func (x *Process) sent(d line) string {
	if x.done < 0 {
		return unknown(x.nodes[d.in])
	}
	return x.values[d.in]
}
