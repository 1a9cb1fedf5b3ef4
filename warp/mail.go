package warp

import "silkworm/api"

// mail is the messages that are under way, in the order in which they were sent.
type mail struct {
	list  []api.Event
	least int  // of their times, if it holds
	stale bool // one of the least time was taken out
}

func (m *mail) send(list []api.Event) {
	for _, e := range list {
		if len(m.list) == 0 {
			m.least = e.Time
		}
		m.least = min(m.least, e.Time)
		m.list = append(m.list, e)
	}
}

// take takes a message out. Those ahead of it move up, so that the first one goes at no cost.
func (m *mail) take(at int) api.Event {
	e := m.list[at]
	copy(m.list[1:at+1], m.list[:at])
	m.list = m.list[1:]
	m.stale = m.stale || e.Time == m.least
	return e
}

// first is the least time of all of them, at most an end. They are gone over only if the one that is known may be gone.
func (m *mail) first(end int) int {
	if len(m.list) == 0 {
		return end
	}
	if m.stale {
		m.least, m.stale = m.list[0].Time, false
		for _, e := range m.list {
			m.least = min(m.least, e.Time)
		}
	}
	return min(m.least, end)
}
