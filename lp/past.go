package lp

import (
	"silkworm/api"
	"slices"
)

// moment is the changes of one time, and the moment ahead. It is not written to any more, so that copies share what is past.
type moment struct {
	ahead   *moment
	changes []api.Change
}

// with is a moment behind this one, if there are changes.
func (m *moment) with(list []api.Change) *moment {
	if len(list) == 0 {
		return m
	}
	return &moment{ahead: m, changes: list}
}

// since is all changes up to a moment, at a time or later.
func (m *moment) since(from int) []api.Change {
	var lists [][]api.Change
	for ; m != nil && m.changes[0].Time >= from; m = m.ahead {
		lists = append(lists, m.changes)
	}
	slices.Reverse(lists)
	return slices.Concat(lists...)
}
