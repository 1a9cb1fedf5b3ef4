package conserv

import "silkworm/api"

// channel is a way from a process to another one that it reaches. What was sent comes in the same order: so a promise that has come speaks of all events that are yet to come.
type channel struct {
	from, to int
	ahead    int // how soon one reaches the other at the least
	promised int // the last promise that was sent; 0: none
	came     int // the last promise that came; 0: none
	messages []message
}

// message is an event, or a promise: that no event comes any more ahead of a time.
type message struct {
	isPromise bool
	promise   int
	event     api.Event
}

// newChannels is the channels between parts. The parts may be whatever they are: what Ahead does not tell is no channel.
func newChannels(p api.Parts) []*channel {
	var list []*channel
	for i := range min(p.N, len(p.Ahead)) {
		for j := range min(p.N, len(p.Ahead[i])) {
			if ahead := p.Ahead[i][j]; ahead > 0 {
				list = append(list, &channel{from: i, to: j, ahead: ahead})
			}
		}
	}
	return list
}

func (c *channel) send(e api.Event) {
	c.messages = append(c.messages, message{event: e})
}

// pledge sends a promise, if it had not promised as much.
func (c *channel) pledge(time int) {
	if time > c.promised {
		c.promised = time
		c.messages = append(c.messages, message{isPromise: true, promise: time})
	}
}

// next takes out the first message, which has to be there.
func (c *channel) next() message {
	m := c.messages[0]
	c.messages = c.messages[1:]
	return m
}
