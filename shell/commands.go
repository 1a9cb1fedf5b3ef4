package shell

import (
	"silkworm/api"
	"silkworm/printer"
	"silkworm/stats"
	"silkworm/vcd"
	"slices"
	"strconv"
	"strings"
)

const (
	done        = "ok"
	notBuilt    = "no"
	everyPort   = "*"
	everyNet    = -1
	mostHorizon = 200
)

// readSource refuses a source that does not end, and then goes past none of its lines.
func (s *session) readSource(words []string) {
	expect(words, 0)
	count := slices.Index(s.lines, sourceEnds)
	if count < 0 {
		giveUp(api.ErrLine)
	}
	var text strings.Builder
	for range count {
		text.WriteString(s.line())
		text.WriteByte('\n')
	}
	s.line()
	s.source, s.sourced = text.String(), true
	s.say(done)
}

func (s *session) build(words []string) {
	if len(words) == 0 {
		giveUp(api.ErrLine)
	}
	flat, netlist, why := Compile(s.theSource(), words[0], words[1:])
	if len(why) > 0 {
		s.design = nil
		for _, d := range why {
			s.say(notBuilt, strconv.Itoa(d.At), strconv.Itoa(int(d.Code)))
		}
		return
	}
	s.design = &design{ports: flat.Nets[:flat.Ports:flat.Ports], netlist: netlist}
	s.say(done)
	for _, p := range s.design.ports {
		s.say(direction(p), p.Name, strconv.Itoa(p.Wide))
	}
}

func direction(p api.Net) string {
	if p.Kind == api.NetIn {
		return "in"
	}
	return "out"
}

func (s *session) set(words []string) {
	expect(words, 3)
	time := number(words[0])
	d := s.theDesign()
	d.join(d.change(time, words[1], words[2]))
	s.say(done)
}

func (s *session) run(words []string) {
	expect(words, 1)
	horizon := number(words[0])
	d := s.theDesign()
	checkHorizon(horizon)
	s.dump(d.inOrder(horizon))
}

func (s *session) conserv(words []string) {
	d, count, horizon := s.inParts(words)
	s.dump(d.inParallel(count, horizon, d.byWaiting))
}

func (s *session) warp(words []string) {
	d, count, horizon := s.inParts(words)
	s.dump(d.inParallel(count, horizon, d.byGoingAhead))
}

// inParts is what both ways to simulate in parallel are told: a design, how many parts it may have, and a horizon.
func (s *session) inParts(words []string) (*design, int, int) {
	expect(words, 2)
	count, horizon := number(words[0]), number(words[1])
	d := s.theDesign()
	if count < 1 || count > api.MaxParts {
		giveUp(api.ErrArg)
	}
	checkHorizon(horizon)
	return d, count, horizon
}

func (s *session) stats(words []string) {
	expect(words, 2)
	horizon := number(words[1])
	d := s.theDesign()
	net := everyNet
	if words[0] != everyPort {
		net = d.port(words[0])
	}
	checkHorizon(horizon)
	n, e := stats.Of(d.inOrder(horizon), net, horizon)
	demand(e)
	s.say(strconv.Itoa(n.Count), mills(n.Rate), mills(n.Mean), mills(n.Spread), mills(n.Least), mills(n.Most))
}

// mills is a number's thousandths as a word, or what it is in their place.
func mills(x float64) string {
	n, kind := stats.Mills(x)
	switch kind {
	case 1:
		return "nan"
	case 2:
		return "inf"
	case 3:
		return "-inf"
	case 4:
		return "big"
	}
	return strconv.Itoa(n)
}

func (s *session) printSource(words []string) {
	expect(words, 0)
	modules, why := modulesOf(s.theSource())
	if len(why) > 0 {
		giveUp(why[0].Code)
	}
	text, e := printer.Print(modules)
	demand(e)
	s.put.WriteString(text)
}

func (s *session) dump(w api.Wave) {
	text, e := vcd.Write(w)
	demand(e)
	s.put.WriteString(text)
}

func (s *session) theSource() string {
	if !s.sourced {
		giveUp(api.ErrNone)
	}
	return s.source
}

func (s *session) theDesign() *design {
	if s.design == nil {
		giveUp(api.ErrNone)
	}
	return s.design
}

func checkHorizon(horizon int) {
	if horizon > mostHorizon {
		giveUp(api.ErrArg)
	}
}
