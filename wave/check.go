package wave

import (
	"silkworm/api"
	"silkworm/logic"
	"slices"
)

const (
	mostNets = 1 << 12
	mostName = 256 // a flat design's names are longer than those of a source
)

// declares tells whether the nets of a waveform, and their first values, may be.
func declares(w api.Wave) bool {
	n := len(w.Names)
	if n > mostNets || len(w.Wides) != n || len(w.First) != n {
		return false
	}
	for i, name := range w.Names {
		if !names(name) || !fits(w.First[i], w.Wides[i]) {
			return false
		}
	}
	return true
}

// names tells whether a text may be a net's name. The empty one may be: simulated nets have no other.
func names(text string) bool {
	if len(text) > mostName {
		return false
	}
	for i := range len(text) {
		if text[i] < 33 || text[i] > 126 {
			return false
		}
	}
	return true
}

// fits tells whether a text is a vector of a width. That width may be then, since a vector has as many bits as one may.
func fits(text string, wide int) bool {
	return len(text) == wide && logic.Check(text) == api.OK
}

// changes tells whether a waveform's changes may be, its nets being such that may.
func changes(w api.Wave) bool {
	values := slices.Clone(w.First)
	for i, c := range w.List {
		if c.Time < 0 || c.Time > api.MaxTime || c.Net < 0 || c.Net >= len(values) || i > 0 && !rises(w.List[i-1], c) {
			return false
		}
		if c.Value == values[c.Net] || !fits(c.Value, w.Wides[c.Net]) {
			return false
		}
		values[c.Net] = c.Value
	}
	return true
}

// rises tells whether a change comes behind another one: at a later time, or at its time of a net with a higher number.
func rises(a, b api.Change) bool {
	return a.Time < b.Time || a.Time == b.Time && a.Net < b.Net
}
