package pre_test

import (
	"silkworm/api"
	"slices"
)

// What the chapter says of directives is said here once more: parts stand within one another by calls within one another, and what comes of a use is counted name by name, without going over it.

const endless = 1 << 30

func reason(at int, e api.Errno) []api.Diag {
	return []api.Diag{{At: at, Code: e}}
}

func isWord(t api.Token, words ...string) bool {
	return t.Kind == api.TokTick && slices.Contains(words, t.Text)
}

func isDirective(t api.Token) bool {
	return isWord(t, "define", "undef", "ifdef", "ifndef", "else", "endif")
}

type want struct {
	l       []api.Token
	i       int
	stands  map[string][]api.Token
	list    []api.Token
	unended []api.Diag
	fault   []api.Diag
}

func wantRun(l []api.Token) ([]api.Token, []api.Diag) {
	w := want{l: l, stands: map[string][]api.Token{}}
	if w.part(true) != "" {
		w.refuse(l[w.i-1], api.ErrDirect)
	}
	if d := append(w.fault, w.unended...); len(d) > 0 {
		return nil, d[:1]
	}
	return append(w.list, l[len(l)-1]), nil
}

func (w *want) refuse(t api.Token, e api.Errno) {
	if len(w.fault) == 0 {
		w.fault = reason(t.At, e)
	}
	w.i = len(w.l)
}

// part goes on up to the else or endif that belongs to what is around, and behind it, or to the end.
func (w *want) part(kept bool) string {
	for w.i < len(w.l) && w.l[w.i].Kind != api.TokEnd {
		t := w.l[w.i]
		w.i++
		if isWord(t, "else", "endif") {
			return t.Text
		}
		if isWord(t, "ifdef", "ifndef") {
			w.choice(t, kept)
		} else if kept {
			w.one(t)
		}
	}
	return ""
}

func (w *want) choice(t api.Token, kept bool) {
	name, ok := w.name(t)
	if !ok {
		return
	}
	_, yes := w.stands[name]
	yes = yes != (t.Text == "ifndef")
	last := w.part(kept && yes)
	if last == "else" {
		last = w.part(kept && !yes)
		if last == "else" {
			w.refuse(w.l[w.i-1], api.ErrDirect)
		}
	}
	if last == "" {
		// Those around this one come behind it here, and ahead of it in the source.
		w.unended = reason(t.At, api.ErrDirect)
	}
}

func (w *want) name(t api.Token) (string, bool) {
	if w.l[w.i].Kind != api.TokName {
		w.refuse(t, api.ErrDirect)
		return "", false
	}
	w.i++
	return w.l[w.i-1].Text, true
}

func (w *want) one(t api.Token) {
	switch {
	case isWord(t, "define"):
		if name, ok := w.name(t); ok {
			n := slices.IndexFunc(w.l[w.i:], func(t api.Token) bool { return t.Kind == api.TokLine || t.Kind == api.TokEnd })
			w.stands[name] = slices.Clone(w.l[w.i : w.i+n])
			w.i += n
		}
	case isWord(t, "undef"):
		if name, ok := w.name(t); ok {
			w.stands = without(w.stands, name)
		}
	case t.Kind == api.TokTick:
		w.use(t)
	case t.Kind != api.TokLine:
		w.keep(t)
	}
}

func without(all map[string][]api.Token, name string) map[string][]api.Token {
	rest := map[string][]api.Token{}
	for k, v := range all {
		if k != name {
			rest[k] = v
		}
	}
	return rest
}

func (w *want) keep(t api.Token) {
	if len(w.list) >= 16384 {
		w.refuse(t, api.ErrFull)
		return
	}
	w.list = append(w.list, t)
}

func (w *want) use(t api.Token) {
	if _, ok := w.stands[t.Text]; !ok {
		w.refuse(t, api.ErrDirect)
		return
	}
	switch n, faulty := w.count(t.Text, map[string]tally{}); {
	case n > 4096:
		w.refuse(t, api.ErrFuel)
	case faulty:
		w.refuse(t, api.ErrDirect)
	default:
		for _, x := range w.flat(t.Text) {
			w.keep(api.Token{Kind: x.Kind, Text: x.Text, At: t.At})
		}
	}
}

type tally struct {
	n      int
	faulty bool
}

// count is how many tokens come of a name, or how many do ahead of the first faulty one. A name that comes up again while it is counted is endless: nothing between is faulty, and so on and on.
func (w *want) count(name string, known map[string]tally) (n int, faulty bool) {
	if c, ok := known[name]; ok {
		return c.n, c.faulty
	}
	known[name] = tally{n: endless}
	for _, t := range w.stands[name] {
		_, stands := w.stands[t.Text]
		if isDirective(t) || t.Kind == api.TokTick && !stands {
			faulty = true
			break
		}
		n++
		if t.Kind == api.TokTick {
			m := 0
			m, faulty = w.count(t.Text, known)
			n = min(n+m, endless)
		}
		if faulty || n == endless {
			break
		}
	}
	known[name] = tally{n: n, faulty: faulty}
	return n, faulty
}

// flat is the tokens that come of a name, of which there are not too many, without the uses.
func (w *want) flat(name string) []api.Token {
	var all []api.Token
	for _, t := range w.stands[name] {
		if t.Kind == api.TokTick {
			all = append(all, w.flat(t.Text)...)
		} else {
			all = append(all, t)
		}
	}
	return all
}
