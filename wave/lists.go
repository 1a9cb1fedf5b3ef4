package wave

import (
	"silkworm/api"
	"slices"
	"sort"
)

// ahead is the changes ahead of the first one whose time is too late. It is a piece of the list, with no room behind its end, so that nothing can be written to what lies there.
func ahead(list []api.Change, late func(time int) bool) []api.Change {
	n := sort.Search(len(list), func(i int) bool { return late(list[i].Time) })
	return list[:n:n]
}

// unchanged is the nets and first values of a waveform, in new memory, without changes.
func unchanged(w api.Wave) api.Wave {
	return api.Wave{Names: slices.Clone(w.Names), Wides: slices.Clone(w.Wides), First: slices.Clone(w.First)}
}

// sameNets tells whether waveforms have the same nets and first values.
func sameNets(a, b api.Wave) bool {
	return slices.Equal(a.Names, b.Names) && slices.Equal(a.Wides, b.Wides) && slices.Equal(a.First, b.First)
}
