package engine

import (
	"silkworm/api"
	"silkworm/logic"
)

// stimulates tells whether changes are a stimulus of a netlist that may be, up to the last time that there is.
func stimulates(stim []api.Change, l api.Netlist) bool {
	for i, c := range stim {
		if c.Time < 0 || c.Time > api.MaxTime || i > 0 && !follows(stim[i-1], c) || !drives(c, l) {
			return false
		}
	}
	return true
}

// follows tells whether a change may stand behind another one.
func follows(ahead, c api.Change) bool {
	return ahead.Time < c.Time || ahead.Time == c.Time && ahead.Net < c.Net
}

// drives tells whether a change gives an input a value that is as wide.
func drives(c api.Change, l api.Netlist) bool {
	if c.Net < 0 || c.Net >= len(l.Nets) {
		return false
	}
	n := l.Nodes[l.Nets[c.Net]]
	return n.Kind == api.NdIn && len(c.Value) == n.Wide && logic.Check(c.Value) == api.OK
}
