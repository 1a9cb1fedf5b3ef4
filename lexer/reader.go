package lexer

import "silkworm/api"

// reader goes over a source. It stays where it is when it meets an error, since that place is told.
type reader struct {
	source  string
	at      int
	defines bool // the tick define stands ahead in this line
	tokens  []api.Token
}

// step goes past one blank, comment or token.
func (r *reader) step() api.Errno {
	rest := r.source[r.at:]
	switch k := kindsOf(rest[0]); {
	case k&isLine != 0 && r.defines:
		return r.line()
	case k&isBlank != 0:
		r.at++
		return api.OK
	case k&beginsComment != 0:
		return r.comment(rest)
	case k&beginsTick != 0:
		return r.tick(rest)
	case k&beginsName != 0:
		return r.name(rest[:run(rest, inName)])
	case k&inName != 0:
		return r.number(rest[:run(rest, inNumber)])
	case k&beginsSign != 0:
		sign := rest[:signWide(rest)]
		return r.take(api.TokSign, sign, len(sign))
	}
	return api.ErrByte
}

func (r *reader) line() api.Errno {
	r.defines = false
	return r.take(api.TokLine, "", 1)
}

// comment also goes past the newlines in it: so they end no line in which a define stands.
func (r *reader) comment(rest string) api.Errno {
	wide := commentWide(rest)
	if wide == 0 {
		return api.ErrByte
	}
	r.at += wide
	return api.OK
}

func (r *reader) tick(rest string) api.Errno {
	name := rest[1:]
	if name == "" || kindsOf(name[0])&beginsName == 0 {
		return api.ErrByte
	}
	name = name[:run(name, inName)]
	if len(name) > api.MaxName {
		return api.ErrLong
	}
	if name == "define" {
		r.defines = true
	}
	return r.take(api.TokTick, name, 1+len(name))
}

func (r *reader) name(text string) api.Errno {
	if len(text) > api.MaxName {
		return api.ErrLong
	}
	return r.take(api.TokName, text, len(text))
}

func (r *reader) number(text string) api.Errno {
	if _, _, e := Number(text); e != api.OK {
		return e
	}
	return r.take(api.TokNumber, text, len(text))
}

// take keeps a token and goes past it.
func (r *reader) take(kind int, text string, wide int) api.Errno {
	if len(r.tokens) == api.MaxTokens {
		return api.ErrFull
	}
	r.tokens = append(r.tokens, api.Token{Kind: kind, Text: text, At: r.at})
	r.at += wide
	return api.OK
}
