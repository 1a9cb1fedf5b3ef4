package lp

import (
	"silkworm/api"
	"silkworm/gates"
	"silkworm/logic"
	"slices"
)

// got is the value that an input or a delay gets: where it stands among the nodes.
type got struct {
	at    int
	value string
}

// ahead is the values ahead of the time 0.
func (f *fixed) ahead() []string {
	values := make([]string, len(f.nodes))
	for i, n := range f.nodes {
		if isGate(n) {
			values[i] = f.gate(n, values)
		} else {
			values[i] = unknown(n)
		}
	}
	return values
}

// settled is the values behind a time, by those ahead of it and what inputs and delays get: if one gets several, the last counts. It ends: a clock rises by flip-flops of lower levels alone.
func (f *fixed) settled(ahead []string, list []got) []string {
	values := f.followed(ahead, list)
	for {
		risen := f.risen(ahead, values)
		if len(risen) == 0 {
			return values
		}
		ahead, values = values, f.followed(values, risen)
	}
}

// followed is the values, once some nodes got theirs and the gates have followed. Only what hangs on a change is worked out again.
func (f *fixed) followed(ahead []string, list []got) []string {
	values := slices.Clone(ahead)
	for _, g := range list {
		values[g.at] = g.value
	}
	for i, n := range f.nodes {
		if isGate(n) && slices.ContainsFunc(n.Ins, func(in int) bool { return values[in] != ahead[in] }) {
			values[i] = f.gate(n, values)
		}
	}
	return values
}

// risen is the flip-flops whose clocks have risen, and what their data is then.
func (f *fixed) risen(ahead, values []string) []got {
	var list []got
	for i, n := range f.nodes {
		if n.Kind == api.NdFlip && logic.Rise(ahead[n.Ins[0]], values[n.Ins[0]]) {
			list = append(list, got{at: i, value: values[n.Ins[1]]})
		}
	}
	return list
}

func (f *fixed) gate(n api.Node, values []string) string {
	ins := make([]string, len(n.Ins))
	for i, in := range n.Ins {
		ins[i] = values[in]
	}
	return gates.Value(n, ins)
}

// isGate tells whether a node hangs on what goes into it, and on nothing that was ahead.
func isGate(n api.Node) bool {
	return n.Kind != api.NdIn && n.Kind != api.NdFlip && n.Kind != api.NdDelay
}
