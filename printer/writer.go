package printer

import (
	"silkworm/api"
	"strings"
)

// refused is what is thrown where a tree has no text, or one that is too long.
type refused struct{}

// writer puts a tree's tokens, one by one.
type writer struct {
	put   func(token string)
	exprs int // how many expressions have been gone into
}

// written is what a function puts. false: it gave up.
func written(limit int, tell func(w *writer)) (text string, ok bool) {
	defer func() {
		if _, gaveUp := recover().(refused); gaveUp {
			text, ok = "", false
		}
	}()
	var out strings.Builder
	tell(&writer{put: putter(&out, limit)})
	return out.String(), true
}

// How much of a for's head stands ahead of a token.
const (
	noHead    = iota
	inHead    // for, and what stands in its brackets
	headBegun // its begin
	headLabel // the sign ahead of its label
)

// putter is a function that puts a token with the byte behind it, which hangs on what it has put ahead of it. A tree may be without an end, or as good as that: the limit is asked at each token.
func putter(out *strings.Builder, limit int) func(token string) {
	head := noHead
	return func(token string) {
		if len(token) >= limit-out.Len() {
			panic(refused{})
		}
		after := byte(' ')
		switch {
		case head == headBegun:
			head = headLabel
		case head == headLabel:
			head, after = noHead, '\n'
		case head == inHead && token == "begin":
			head = headBegun
		case head == noHead && token == "for":
			head = inHead
		case head == noHead && endsLine(token):
			after = '\n'
		}
		out.WriteString(token)
		out.WriteByte(after)
	}
}

func endsLine(token string) bool {
	switch token {
	case ";", "begin", "end", "endcase", "endmodule":
		return true
	}
	return false
}

func (w *writer) puts(tokens ...string) {
	for _, t := range tokens {
		w.put(t)
	}
}

// commas puts each of a list, with commas between them.
func commas[T any](w *writer, list []T, one func(T)) {
	for i, x := range list {
		if i > 0 {
			w.put(",")
		}
		one(x)
	}
}

// enter counts an expression that is gone into. Each has a token of its own: if they are more than there may be tokens, the text would not be read. Without this the first parts of binary ones, ahead of which nothing is put, could go on and on.
func (w *writer) enter() {
	if w.exprs == api.MaxTokens {
		panic(refused{})
	}
	w.exprs++
}
