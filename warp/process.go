package warp

import (
	"silkworm/api"
	"silkworm/lp"
	"slices"
)

// key tells a message apart: which process it is from, and its number there.
type key [2]int

// process is a logical process that goes ahead, and back.
type process struct {
	*lp.Process                   // as it is now
	states      []state           // by their times
	met         map[key]api.Event // events that came and were not taken back; Anti messages that came ahead of what they take back
	sent        int               // how many messages it has sent. Going back does not lower it: else a message that was taken back and one that is sent in its place could not be told apart.
}

// state is a process as it was ahead of a time that it went through then, and what to do about it, if it goes back there.
type state struct {
	*lp.Process
	time int
	sent []api.Event // what it sent by going through that time
	news []key       // what came or was taken back since, up to the next state
}

// goAhead goes through its next time, if there is one: what comes of it for others. The state that is saved is the process itself; a copy goes on, so that nothing has changed, if that is refused.
func (x *process) goAhead(saved int) ([]api.Event, api.Errno) {
	time, ok := x.Next()
	if !ok {
		return nil, api.OK
	}
	next := x.Copy()
	sent, e := next.Step()
	if e != api.OK {
		return nil, e
	}
	if len(x.states) >= saved {
		return nil, api.ErrSaved
	}
	for i := range sent {
		x.sent++
		sent[i].Seq = x.sent
	}
	x.states = append(x.states, state{Process: x.Process, time: time, sent: sent})
	x.Process = next
	return sent, api.OK
}

// come lets a message come: what it sends by that, which is Anti messages alone.
func (x *process) come(m api.Event) ([]api.Event, api.Errno) {
	k := key{m.From, m.Seq}
	if other, ok := x.met[k]; ok {
		delete(x.met, k)
		if other.Anti {
			return nil, api.OK
		}
	} else {
		x.met[k] = m
		if m.Anti {
			return nil, api.OK
		}
	}
	if m.Time > x.Done() {
		return nil, x.learn([]key{k})
	}
	sent, news := x.goBack(m.Time)
	return sent, x.learn(append(news, k))
}

// goBack goes back to the last state ahead of a time that it has gone through: what takes back all that it sent since, and what is news to that state.
func (x *process) goBack(time int) (antis []api.Event, news []key) {
	at := slices.IndexFunc(x.states, func(s state) bool { return s.time >= time })
	for _, s := range x.states[at:] {
		antis = append(antis, s.sent...)
		news = append(news, s.news...)
	}
	for i := range antis {
		antis[i].Anti = true
	}
	x.Process = x.states[at].Process
	clear(x.states[at:])
	x.states = x.states[:at]
	return antis, news
}

// learn lets what came count, and what was taken back not any more. It takes back first, so that there is room for what came. The last state, being ahead of that, has it as news, but for what came and was taken back since.
func (x *process) learn(news []key) api.Errno {
	news = slices.DeleteFunc(news, func(k key) bool {
		_, ok := x.met[k]
		return !ok && !x.Cancel(k[0], k[1])
	})
	if last := len(x.states) - 1; last >= 0 {
		x.states[last].news = append(x.states[last].news, news...)
	}
	for _, k := range news {
		if m, ok := x.met[k]; ok {
			if e := x.Take(m); e != api.OK {
				return e
			}
		}
	}
	return api.OK
}

// drop drops the states to which it goes back no more, since nothing comes ahead of a time.
func (x *process) drop(time int) {
	count := 0
	for count < len(x.states) && x.states[count].time < time {
		count++
	}
	clear(x.states[:count])
	x.states = x.states[count:]
}
