package syntax_test

import (
	"silkworm/api"
	"slices"
	"strings"
)

// The chapter's grammar once more. Words and signs stand behind a quote; a part with @1 is at depth 1, one with + is one deeper than what it is within, others are as deep. (var and again: the two names of a for. What a name begins is put together, lest the ways to read it double within one another.)
const grammar = `
source: module { module } end
module: 'module name [ '# '( param { ', param } ') ] '( [ port { ', port } ] ') '; { item@1 } 'endmodule
param: 'parameter name '= expr@1
port: ( 'input | 'output [ 'reg ] ) [ range ] name
range: '[ expr@1 ': expr@1 ']
item: ( 'wire | 'reg ) [ range ] name { ', name } '; | 'localparam name '= expr@1 '; | 'assign [ '# primary@1 ] name '= expr@1 '; | 'always '@ '( ( '* | 'posedge name ) ') stmt@1 | name [ '# '( bind { ', bind } ') ] name '( [ bind { ', bind } ] ') '; | 'for '( var '= expr@1 '; expr@1 '; again '= expr@1 ') 'begin ': name { item+ } 'end
bind: '. name '( expr@1 ')
stmt: 'begin { stmt+ } 'end | 'if '( expr@1 ') stmt+ [ 'else stmt+ ] | 'case '( expr@1 ') { expr@1 ': stmt+ } [ 'default ': stmt+ ] 'endcase | name ( '= | '<= ) expr@1 ';
expr: e1 [ '? expr+ ': expr+ ]
e1: e2 { '|| e2 }
e2: e3 { '&& e3 }
e3: e4 { '| e4 }
e4: e5 { '^ e5 }
e5: e6 { '& e6 }
e6: e7 { ( '== | '!= ) e7 }
e7: e8 { ( '< | '<= | '> | '>= ) e8 }
e8: e9 { ( '<< | '>> ) e9 }
e9: unary { ( '+ | '- ) unary }
unary: ( '~ | '! | '- | '& | '| | '^ ) unary+ | primary
primary: number | name [ '[ expr+ [ ': expr+ ] '] ] | '( expr+ ') | '{ expr+ { ', expr+ } '}
`

const languageWords = " module endmodule input output reg wire parameter localparam assign always posedge begin end if else case endcase default for "

var theRules = rulesOf(grammar)

// rule is a part of the grammar: of kind "all" one behind the other, of "any" one of them, of "once" it or nothing, of "often" it any number of times; of no kind a word, sign, or part by its name.
type rule struct {
	kind  string
	parts []*rule
	text  string
}

// rulesOf reads the grammar.
func rulesOf(text string) map[string]*rule {
	rules := map[string]*rule{}
	for line := range strings.Lines(text) {
		if head, tail, ok := strings.Cut(strings.TrimSpace(line), ": "); ok {
			words := strings.Fields(tail)
			rules[head] = readRule(&words)
		}
	}
	return rules
}

func readRule(words *[]string) *rule {
	any := &rule{kind: "any", parts: []*rule{{kind: "all"}}}
	for len(*words) > 0 {
		w := (*words)[0]
		*words = (*words)[1:]
		last := any.parts[len(any.parts)-1]
		switch w {
		case "|":
			any.parts = append(any.parts, &rule{kind: "all"})
		case ")", "]", "}":
			return any
		case "(":
			last.parts = append(last.parts, readRule(words))
		case "[":
			last.parts = append(last.parts, &rule{kind: "once", parts: []*rule{readRule(words)}})
		case "{":
			last.parts = append(last.parts, &rule{kind: "often", parts: []*rule{readRule(words)}})
		default:
			last.parts = append(last.parts, &rule{text: w})
		}
	}
	return any
}

// rest is what is still to come, on one of the ways to read what stands ahead.
type rest struct {
	rule  *rule
	depth int
	next  *rest
}

// ways is all ways to read what stands ahead of a token, and those that go on with it: with a part that is not too deep, or too deep.
type ways struct {
	rules   map[string]*rule
	now     []*rest
	token   api.Token
	word    bool // the token's text is a word of the language
	right   []*rest
	tooDeep []*rest
	forVar  string
}

func (w *ways) try(r *rest, tooDeep bool) {
	if r == nil {
		return
	}
	switch r.rule.kind {
	case "all":
		next := r.next
		for _, x := range slices.Backward(r.rule.parts) {
			next = &rest{x, r.depth, next}
		}
		w.try(next, tooDeep)
	case "any":
		for _, x := range r.rule.parts {
			w.try(&rest{x, r.depth, r.next}, tooDeep)
		}
	case "once":
		w.try(&rest{r.rule.parts[0], r.depth, r.next}, tooDeep)
		w.try(r.next, tooDeep)
	case "often":
		w.try(&rest{r.rule.parts[0], r.depth, r}, tooDeep)
		w.try(r.next, tooDeep)
	default:
		w.one(r, tooDeep)
	}
}

// one goes on with a word, a sign, or a part by its name.
func (w *ways) one(r *rest, tooDeep bool) {
	text, depth := r.rule.text, r.depth
	if part, ok := strings.CutSuffix(text, "@1"); ok {
		text, depth = part, 1
	} else if part, ok := strings.CutSuffix(text, "+"); ok && text[0] != '\'' {
		text, depth = part, depth+1
	}
	switch part := w.rules[text]; {
	case part != nil:
		w.try(&rest{part, depth, r.next}, tooDeep || depth > 32)
	case w.is(text) && tooDeep:
		w.tooDeep = append(w.tooDeep, r.next)
	case w.is(text):
		w.right = append(w.right, r.next)
	}
}

func (w *ways) is(text string) bool {
	t, word := w.token, w.word
	switch text {
	case "end":
		return t.Kind == api.TokEnd
	case "number":
		return t.Kind == api.TokNumber
	case "name":
		return t.Kind == api.TokName && !word
	case "var":
		w.forVar = t.Text
		return t.Kind == api.TokName && !word
	case "again":
		return t.Kind == api.TokName && t.Text == w.forVar
	}
	return t.Text == text[1:] && (t.Kind == api.TokName && word || t.Kind == api.TokSign && !word)
}

// wantReason is why tokens are refused.
func wantReason(l []api.Token) []api.Diag {
	w := newWays()
	return w.reason(l)
}

func newWays() ways {
	return ways{rules: theRules, now: []*rest{{rule: theRules["source"]}}}
}

// reason goes on with tokens, up to the first one that goes on none of the ways, or on ways that are too deep alone.
func (w *ways) reason(l []api.Token) []api.Diag {
	for _, w.token = range l {
		w.word = strings.Contains(languageWords, " "+w.token.Text+" ")
		w.right, w.tooDeep = nil, nil
		for _, r := range w.now {
			w.try(r, false)
		}
		if len(w.right) == 0 && len(w.tooDeep) == 0 {
			return []api.Diag{{At: w.token.At, Code: api.ErrSyntax}}
		}
		if len(w.right) == 0 {
			return []api.Diag{{At: w.token.At, Code: api.ErrDeep}}
		}
		w.now = w.right
		if w.token.Text == "else" {
			// It belongs to the nearest if: the one that was tried first.
			w.now = w.now[:1]
		}
	}
	return nil
}
