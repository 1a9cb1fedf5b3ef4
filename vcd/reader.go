package vcd

import (
	"silkworm/api"
	"strconv"
	"strings"
)

// reader goes over bytes, line by line, and gives up at the first one of which nothing can be kept. It looks at no more than that takes: whether the lines are those of a dump tells when what it kept is written again.
type reader struct {
	rest string
	nets map[string]int // by their codes
	wave api.Wave
}

// read is what the lines tell. false: they are no dump, since one of them tells nothing.
func read(s string) (w api.Wave, ok bool) {
	defer func() {
		if _, gaveUp := recover().(refused); gaveUp {
			w, ok = api.Wave{}, false
		}
	}()
	r := reader{rest: s, nets: map[string]int{}}
	r.declared()
	r.first()
	r.changes()
	return r.wave, true
}

// line goes past one.
func (r *reader) line() string {
	text, rest, ended := strings.Cut(r.rest, "\n")
	if !ended {
		panic(refused{})
	}
	r.rest = rest
	return text
}

// fixed goes past lines that have to stand there.
func (r *reader) fixed(lines ...string) {
	for _, text := range lines {
		if r.line() != text {
			panic(refused{})
		}
	}
}

func (r *reader) declared() {
	r.fixed(timescale, scope)
	for text := r.line(); text != upscope; text = r.line() {
		r.net(text)
	}
	r.fixed(definitions)
}

func (r *reader) net(text string) {
	words := strings.Split(text, " ")
	if len(words) != netWords {
		panic(refused{})
	}
	wide, code, name := words[2], words[3], words[4]
	if name == unnamed {
		name = ""
	}
	r.nets[code] = len(r.wave.Names)
	r.wave.Names = append(r.wave.Names, name)
	r.wave.Wides = append(r.wave.Wides, number(wide))
}

func (r *reader) first() {
	r.fixed(dumpvars)
	for text := r.line(); text != dumped; text = r.line() {
		_, v := r.value(text)
		r.wave.First = append(r.wave.First, v)
	}
}

func (r *reader) changes() {
	time := 0
	for r.rest != "" {
		text := r.line()
		if at, is := strings.CutPrefix(text, timeBegins); is {
			time = number(at)
			continue
		}
		net, v := r.value(text)
		r.wave.List = append(r.wave.List, api.Change{Time: time, Net: net, Value: v})
	}
}

// value is a net's number, and a value of it.
func (r *reader) value(text string) (net int, v string) {
	if text == "" {
		panic(refused{})
	}
	v, code := text[:1], text[1:]
	if v == wideBegins {
		v, code, _ = strings.Cut(code, " ")
	}
	net, there := r.nets[code]
	if !there {
		panic(refused{})
	}
	return net, v
}

func number(text string) int {
	n, e := strconv.Atoi(text)
	if e != nil {
		panic(refused{})
	}
	return n
}
