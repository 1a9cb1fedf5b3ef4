package pre

import "silkworm/api"

// runner goes over a source, which is all tokens but the end.
type runner struct {
	source []api.Token
	end    api.Token
	at     int
	names  map[string][]api.Token
	open   []branch // those that have not ended, the innermost last
	kept   []api.Token
}

// branch is an ifdef or ifndef.
type branch struct {
	at     int
	within bool // it stands within what is kept
	keeps  bool // what stands here is kept
	turned bool // its else is behind
}

// splits tells whether a directive counts within what is not kept too.
func splits(name string) bool {
	switch name {
	case "ifdef", "ifndef", "else", "endif":
		return true
	}
	return false
}

func directs(name string) bool {
	return splits(name) || name == "define" || name == "undef"
}

// step goes past one token, or a directive with all that belongs to it.
func (r *runner) step() {
	t := r.source[r.at]
	r.at++
	switch {
	case t.Kind == api.TokTick && splits(t.Text):
		r.split(t)
	case !r.keeping():
	case t.Kind == api.TokTick:
		r.tick(t)
	case t.Kind != api.TokLine:
		r.keep(t)
	}
}

func (r *runner) keeping() bool {
	return len(r.open) == 0 || r.open[len(r.open)-1].keeps
}

func (r *runner) keep(t api.Token) {
	if len(r.kept) == api.MaxTokens {
		giveUp(t.At, api.ErrFull)
	}
	r.kept = append(r.kept, t)
}

func (r *runner) split(t api.Token) {
	switch t.Text {
	case "else":
		r.turn(t)
	case "endif":
		r.innermost(t)
		r.open = r.open[:len(r.open)-1]
	default:
		_, stands := r.names[r.name(t)]
		within := r.keeping()
		r.open = append(r.open, branch{at: t.At, within: within, keeps: within && stands == (t.Text == "ifdef")})
	}
}

func (r *runner) turn(t api.Token) {
	b := r.innermost(t)
	if b.turned {
		giveUp(t.At, api.ErrDirect)
	}
	b.turned = true
	b.keeps = b.within && !b.keeps
}

// innermost is the branch that an else or endif belongs to.
func (r *runner) innermost(t api.Token) *branch {
	if len(r.open) == 0 {
		giveUp(t.At, api.ErrDirect)
	}
	return &r.open[len(r.open)-1]
}

func (r *runner) tick(t api.Token) {
	switch t.Text {
	case "define":
		name := r.name(t)
		r.names[name] = r.line()
	case "undef":
		delete(r.names, r.name(t))
	default:
		r.use(t)
	}
}

// name goes past the name that has to stand behind a directive.
func (r *runner) name(directive api.Token) string {
	if r.at == len(r.source) || r.source[r.at].Kind != api.TokName {
		giveUp(directive.At, api.ErrDirect)
	}
	r.at++
	return r.source[r.at-1].Text
}

// line goes past the tokens up to a line's end. They are cut without room behind them, since that is the source's.
func (r *runner) line() []api.Token {
	from := r.at
	for r.at < len(r.source) && r.source[r.at].Kind != api.TokLine {
		r.at++
	}
	return r.source[from:r.at:r.at]
}
