package wave_test

import (
	"silkworm/api"
	"slices"
	"strings"
)

// The chapter's words told once more, one by one, however long that takes.

// plain tells whether a text is so many of the bytes 0 1 x z.
func plain(v string, wide int) bool {
	return len(v) == wide && strings.Trim(v, "01xz") == ""
}

func netMayBe(name string, wide int, first string) bool {
	for _, b := range []byte(name) {
		if b < '!' || b > '~' {
			return false
		}
	}
	return len(name) <= 256 && wide >= 1 && wide <= 256 && plain(first, wide)
}

// mayBe tells whether a waveform may be: its nets one by one, then each two of its changes, then the values of each net.
func mayBe(w api.Wave) bool {
	n := len(w.Names)
	if n > 4096 || len(w.Wides) != n || len(w.First) != n {
		return false
	}
	for i, c := range w.List {
		if c.Time < 0 || c.Time >= 1<<62 || c.Net < 0 || c.Net >= n {
			return false
		}
		for _, b := range w.List[i+1:] {
			if c.Time > b.Time || c.Time == b.Time && c.Net >= b.Net {
				return false
			}
		}
	}
	for net, name := range w.Names {
		if !netMayBe(name, w.Wides[net], w.First[net]) {
			return false
		}
		had := w.First[net]
		for _, c := range w.List {
			if c.Net == net && (c.Value == had || !plain(c.Value, w.Wides[net])) {
				return false
			}
			if c.Net == net {
				had = c.Value
			}
		}
	}
	return true
}

// cutAt is the changes ahead of a time.
func cutAt(w api.Wave, time int) []api.Change {
	var out []api.Change
	for _, c := range w.List {
		if c.Time < time {
			out = append(out, c)
		}
	}
	return out
}

// valuesAt is of each net its last value up to a time.
func valuesAt(w api.Wave, time int) []string {
	var out []string
	for net, v := range w.First {
		for _, c := range slices.Backward(w.List) {
			if c.Net == net && c.Time <= time {
				v = c.Value
				break
			}
		}
		out = append(out, v)
	}
	return out
}

// beginning tells whether a waveform begins another one, of which both may be.
func beginning(a, b api.Wave) bool {
	if len(a.Names) != len(b.Names) || len(a.List) > len(b.List) {
		return false
	}
	for i := range a.Names {
		if a.Names[i] != b.Names[i] || a.Wides[i] != b.Wides[i] || a.First[i] != b.First[i] {
			return false
		}
	}
	for i, c := range a.List {
		if b.List[i].Time != c.Time || b.List[i].Net != c.Net || b.List[i].Value != c.Value {
			return false
		}
	}
	return true
}

// inOrder is the changes of parts, the one that comes next taken out again and again.
func inOrder(parts [][]api.Change) []api.Change {
	var rest, out []api.Change
	for _, list := range parts {
		rest = append(rest, list...)
	}
	for len(rest) > 0 {
		at := 0
		for i, c := range rest {
			if c.Time < rest[at].Time || c.Time == rest[at].Time && c.Net < rest[at].Net {
				at = i
			}
		}
		out = append(out, rest[at])
		rest = slices.Delete(rest, at, at+1)
	}
	return out
}
