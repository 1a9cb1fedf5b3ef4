package syntax

import "silkworm/api"

// parser goes over tokens, from the first one on, and never back.
type parser struct {
	tokens []api.Token
	at     int
}

// here is the token that comes next; behind all of them one of no kind, that follows nowhere, so that a list without an end is refused.
func (p *parser) here() api.Token {
	if p.at < len(p.tokens) {
		return p.tokens[p.at]
	}
	if len(p.tokens) == 0 {
		return api.Token{}
	}
	return api.Token{At: p.tokens[len(p.tokens)-1].At}
}

// step goes past a token.
func (p *parser) step() api.Token {
	t := p.here()
	p.at++
	return t
}

// open goes past the first token of an expression, a statement or an item, of which it is known by then that it can follow.
func (p *parser) open(depth int) api.Token {
	if depth > api.MaxDeep {
		panic(deep(p.here().At))
	}
	return p.step()
}

// sees tells whether a sign or a word comes next.
func (p *parser) sees(text string) bool {
	return fixed(p.here()) == text
}

// takes goes past a sign or a word, if it comes next.
func (p *parser) takes(text string) bool {
	if !p.sees(text) {
		return false
	}
	p.step()
	return true
}

// need goes past a sign or a word that has to come next.
func (p *parser) need(text string) {
	if !p.takes(text) {
		panic(wrong(p.here().At))
	}
}

// name goes past a name that has to come next.
func (p *parser) name() string {
	if !isName(p.here()) {
		panic(wrong(p.here().At))
	}
	return p.step().Text
}

// several is one, and more of them behind commas.
func several[T any](p *parser, one func() T) []T {
	list := []T{one()}
	for p.takes(",") {
		list = append(list, one())
	}
	return list
}

// fixed is the sign, or the word of the language, that a token is; else no text.
func fixed(t api.Token) string {
	if t.Kind == api.TokName && isWord(t.Text) || t.Kind == api.TokSign && !isWord(t.Text) {
		return t.Text
	}
	return ""
}

func isName(t api.Token) bool {
	return t.Kind == api.TokName && !isWord(t.Text)
}

func isWord(text string) bool {
	switch text {
	case "module", "endmodule", "input", "output", "reg", "wire", "parameter", "localparam", "assign", "always", "posedge", "begin", "end", "if", "else", "case", "endcase", "default", "for":
		return true
	}
	return false
}
