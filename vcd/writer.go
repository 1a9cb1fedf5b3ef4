package vcd

import (
	"silkworm/api"
	"strconv"
	"strings"
)

// writer puts a dump, line by line.
type writer struct {
	out strings.Builder
}

// written is the dump of a waveform that may be. false: it is too long.
func written(wave api.Wave) (s string, ok bool) {
	defer func() {
		if _, gaveUp := recover().(refused); gaveUp {
			s, ok = "", false
		}
	}()
	var w writer
	w.nets(wave)
	w.values(wave.First)
	w.changes(wave.List)
	return w.out.String(), true
}

// line puts one. The limit is asked at each, since a waveform may have far more of them than there is room for.
func (w *writer) line(parts ...string) {
	for _, p := range parts {
		w.out.WriteString(p)
	}
	w.out.WriteByte('\n')
	if w.out.Len() > api.MaxOut {
		panic(refused{})
	}
}

func (w *writer) nets(wave api.Wave) {
	w.line(timescale)
	w.line(scope)
	for net, name := range wave.Names {
		if name == "" {
			name = unnamed
		}
		code, _ := Code(net)
		w.line(netBegins, strconv.Itoa(wave.Wides[net]), " ", code, " ", name, netEnds)
	}
	w.line(upscope)
	w.line(definitions)
}

func (w *writer) values(first []string) {
	w.line(dumpvars)
	for net, v := range first {
		w.value(net, v)
	}
	w.line(dumped)
}

func (w *writer) changes(list []api.Change) {
	for i, c := range list {
		if i == 0 || c.Time != list[i-1].Time {
			w.line(timeBegins, strconv.Itoa(c.Time))
		}
		w.value(c.Net, c.Value)
	}
}

func (w *writer) value(net int, v string) {
	code, _ := Code(net)
	if len(v) == 1 {
		w.line(v, code)
		return
	}
	w.line(wideBegins, v, " ", code)
}
