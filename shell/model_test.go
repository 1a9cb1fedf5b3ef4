package shell_test

import (
	"cmp"
	"maps"
	"regexp"
	"silkworm/api"
	"silkworm/elab"
	"silkworm/engine"
	"silkworm/level"
	"silkworm/lexer"
	"silkworm/logic"
	"silkworm/lower"
	"silkworm/opt"
	"silkworm/pre"
	"silkworm/printer"
	"silkworm/stats"
	"silkworm/syntax"
	"silkworm/vcd"
	"slices"
	"strconv"
	"strings"
)

// The chapter's words told once more: each command is a pattern of a line, and what it puts out is worked out from the history of those that were not refused. Both back ends are told by layer 12.

const (
	digits = `(0|[1-9][0-9]{0,8}|1000000000)`
	word   = `([^ ]+)`
)

// rule is a command: its line, and what it puts out; an error: it is refused.
type rule struct {
	line *regexp.Regexp
	do   func(m *model, w []string) (string, api.Errno)
}

func pattern(words ...string) *regexp.Regexp {
	return regexp.MustCompile(`^ *` + strings.Join(words, ` +`) + ` *$`)
}

var rules = []rule{
	{pattern("build", word+"((?: +[^ ]+)*)"), (*model).build},
	{pattern("set", digits, word, word), (*model).set},
	{pattern("run", digits), func(m *model, w []string) (string, api.Errno) { return m.simulate("1", w[0]) }},
	{pattern("conserv", digits, digits), func(m *model, w []string) (string, api.Errno) { return m.simulate(w[0], w[1]) }},
	{pattern("warp", digits, digits), func(m *model, w []string) (string, api.Errno) { return m.simulate(w[0], w[1]) }},
	{pattern("stats", word, digits), (*model).numbers},
	{pattern("print"), (*model).print},
}

// model is what the commands so far have made.
type model struct {
	sources []string // the last one counts
	built   []built  // likewise; one without ports and nodes: there is no design
	sets    map[[2]int]string
}

type built struct {
	none bool
	flat api.Flat
	list api.Netlist
}

// meant is the transcript of a text, and where its commands begin.
func meant(text string) (string, []int) {
	var m model
	var begins []int
	out := ""
	for at := 0; at <= len(text); {
		end := lineEnd(text, at)
		line := text[at:end]
		if strings.Trim(line, " ") == "" || strings.HasPrefix(line, "//") {
			at = end + 1
			continue
		}
		begins = append(begins, at)
		part, past := m.command(line, text, end+1)
		at = past
		if len(out)+len(part) > 1<<20 {
			return out + "! 4\n", begins
		}
		out += part
	}
	return out, begins
}

func lineEnd(text string, at int) int {
	if n := strings.IndexByte(text[at:], '\n'); n >= 0 {
		return at + n
	}
	return len(text)
}

// command is what a line puts out, and where the next one begins.
func (m *model) command(line, text string, at int) (string, int) {
	if strings.Trim(line, " ") == "source" {
		for from := at; from <= len(text); {
			end := lineEnd(text, from)
			if text[from:end] == "." {
				m.sources = append(m.sources, text[at:from])
				return "ok\n", end + 1
			}
			from = end + 1
		}
		return "! 210\n", at
	}
	for _, r := range rules {
		if w := r.line.FindStringSubmatch(line); w != nil {
			part, e := r.do(m, w[1:])
			if e != api.OK {
				part = "! " + strconv.Itoa(int(e)) + "\n"
			}
			return part, at
		}
	}
	return "! 210\n", at
}

func (m *model) build(w []string) (string, api.Errno) {
	if len(m.sources) == 0 {
		return "", api.ErrNone
	}
	passes := slices.DeleteFunc(strings.Split(w[1], " "), func(p string) bool { return p == "" })
	f, l, d := compiled(m.sources[len(m.sources)-1], w[0], passes)
	m.sets = map[[2]int]string{}
	m.built = append(m.built, built{none: len(d) > 0, flat: f, list: l})
	if len(d) > 0 {
		return "no " + strconv.Itoa(d[0].At) + " " + strconv.Itoa(int(d[0].Code)) + "\n", api.OK
	}
	out := "ok\n"
	for _, net := range f.Nets[:f.Ports] {
		if net.Kind == api.NetIn {
			out += "in "
		} else {
			out += "out "
		}
		out += net.Name + " " + strconv.Itoa(net.Wide) + "\n"
	}
	return out, api.OK
}

// compiled is Compile, layer by layer.
func compiled(s, top string, passes []string) (api.Flat, api.Netlist, []api.Diag) {
	refuse := func(d []api.Diag) (api.Flat, api.Netlist, []api.Diag) { return api.Flat{}, api.Netlist{}, d }
	tokens, d := lexer.Lex(s)
	if len(d) == 0 {
		tokens, d = pre.Run(tokens)
	}
	var tree []api.Module
	if len(d) == 0 {
		tree, d = syntax.Parse(tokens)
	}
	var f api.Flat
	if len(d) == 0 {
		f, d = elab.Build(tree, top)
	}
	if len(d) > 0 {
		return refuse(d)
	}
	l, e := lower.Run(f)
	if e == api.OK {
		l, e = opt.Run(l, passes)
	}
	if e == api.OK {
		_, e = level.Run(l)
	}
	if e != api.OK {
		return refuse([]api.Diag{{At: 0, Code: e}})
	}
	return f, l, nil
}

func (m *model) design() (built, bool) {
	if len(m.built) == 0 || m.built[len(m.built)-1].none {
		return built{}, false
	}
	return m.built[len(m.built)-1], true
}

func (m *model) set(w []string) (string, api.Errno) {
	b, ok := m.design()
	if !ok {
		return "", api.ErrNone
	}
	time, _ := strconv.Atoi(w[0])
	for net, n := range b.flat.Nets[:b.flat.Ports] {
		if n.Name != w[1] || n.Kind != api.NetIn || logic.Check(w[2]) != api.OK || n.Wide != len(w[2]) {
			continue
		}
		if _, there := m.sets[[2]int{time, net}]; there || len(m.sets) < 500 {
			m.sets[[2]int{time, net}] = w[2]
			return "ok\n", api.OK
		}
	}
	return "", api.ErrArg
}

// wave is layer 12's waveform, with names.
func (m *model) wave(b built, horizon int) (api.Wave, api.Errno) {
	var stim []api.Change
	keys := slices.SortedFunc(maps.Keys(m.sets), func(a, b [2]int) int { return cmp.Or(cmp.Compare(a[0], b[0]), cmp.Compare(a[1], b[1])) })
	for _, k := range keys {
		stim = append(stim, api.Change{Time: k[0], Net: k[1], Value: m.sets[k]})
	}
	w, e := engine.Run(b.list, stim, horizon)
	for i := range w.Names {
		w.Names[i] = b.flat.Nets[i].Name
	}
	return w, e
}

func (m *model) simulate(parts, horizon string) (string, api.Errno) {
	b, ok := m.design()
	if !ok {
		return "", api.ErrNone
	}
	n, _ := strconv.Atoi(parts)
	end, _ := strconv.Atoi(horizon)
	if n < 1 || n > 64 || end > 200 {
		return "", api.ErrArg
	}
	w, e := m.wave(b, end)
	if e != api.OK {
		return "", e
	}
	return vcd.Write(w)
}

func (m *model) numbers(w []string) (string, api.Errno) {
	b, ok := m.design()
	if !ok {
		return "", api.ErrNone
	}
	net := slices.IndexFunc(b.flat.Nets[:b.flat.Ports], func(n api.Net) bool { return n.Name == w[0] })
	horizon, _ := strconv.Atoi(w[1])
	if horizon > 200 || net < 0 && w[0] != "*" {
		return "", api.ErrArg
	}
	v, e := m.wave(b, horizon)
	if e != api.OK {
		return "", e
	}
	s, e := stats.Of(v, net, horizon)
	out := strconv.Itoa(s.Count)
	for _, x := range []float64{s.Rate, s.Mean, s.Spread, s.Least, s.Most} {
		n, kind := stats.Mills(x)
		out += " " + []string{strconv.Itoa(n), "nan", "inf", "-inf", "big"}[kind]
	}
	return out + "\n", e
}

func (m *model) print([]string) (string, api.Errno) {
	if len(m.sources) == 0 {
		return "", api.ErrNone
	}
	tokens, d := lexer.Lex(m.sources[len(m.sources)-1])
	if len(d) == 0 {
		tokens, d = pre.Run(tokens)
	}
	var tree []api.Module
	if len(d) == 0 {
		tree, d = syntax.Parse(tokens)
	}
	if len(d) > 0 {
		return "", d[0].Code
	}
	return printer.Print(tree)
}
