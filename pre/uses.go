package pre

import "silkworm/api"

// outcome is what comes of a use in the source: its place, how many tokens, and those of them that are no uses.
type outcome struct {
	at    int
	count int
	list  []api.Token
}

// use keeps nothing before all that comes of the use is counted: too many by themselves are told ahead of too many in all.
func (r *runner) use(t api.Token) {
	o := outcome{at: t.At}
	r.expand(r.standsFor(t.Text, o.at), &o)
	for _, t := range o.list {
		r.keep(t)
	}
}

// standsFor is the tokens that a use stands for.
func (r *runner) standsFor(name string, at int) []api.Token {
	list, stands := r.names[name]
	if !stands || directs(name) {
		giveUp(at, api.ErrDirect)
	}
	return list
}

// expand never gets deeper than the count goes, so it ends even where names stand for themselves.
func (r *runner) expand(list []api.Token, o *outcome) {
	for _, t := range list {
		if t.Kind != api.TokTick {
			o.come()
			o.list = append(o.list, api.Token{Kind: t.Kind, Text: t.Text, At: o.at})
			continue
		}
		// A fault in a token is told ahead of its being one too many, by the order in which the chapter names them.
		inner := r.standsFor(t.Text, o.at)
		o.come()
		r.expand(inner, o)
	}
}

// come counts one more token.
func (o *outcome) come() {
	if o.count == api.MaxFuel {
		giveUp(o.at, api.ErrFuel)
	}
	o.count++
}
