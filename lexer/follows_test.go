package lexer_test

import (
	"silkworm/api"
	"silkworm/lexer"
	"slices"
	"strings"
	"testing"
)

// standsThere tells whether a token's text is what the source has at its place.
func standsThere(s string, k api.Token) bool {
	rest := s[k.At:]
	switch k.Kind {
	case api.TokName, api.TokNumber, api.TokSign:
		return k.Text != "" && strings.HasPrefix(rest, k.Text)
	case api.TokTick:
		return k.Text != "" && strings.HasPrefix(rest, "`"+k.Text)
	case api.TokLine:
		return k.Text == "" && rest[0] == '\n'
	}
	return k.Kind == api.TokEnd && k.Text == "" && rest == ""
}

func TestLe2Places(t *testing.T) {
	taken := 0
	for _, s := range sources() {
		l, d := lexer.Lex(s)
		if len(d) > 1 || len(d) == 1 && (len(l) != 0 || d[0].At < 0 || d[0].At >= len(s)) {
			t.Fatalf("Lex(%q): %v %v", s, l, d)
		}
		if len(d) == 1 {
			continue
		}
		taken++
		from := 0
		for i, k := range l {
			if k.At < from || k.At > len(s) || k.At == len(s) && i+1 < len(l) || !standsThere(s, k) {
				t.Fatalf("Lex(%q): %v", s, l)
			}
			from = k.At + max(len(k.Text), 1)
		}
		if len(l) == 0 || l[len(l)-1] != (api.Token{Kind: api.TokEnd, At: len(s)}) {
			t.Fatalf("Lex(%q): %v", s, l)
		}
	}
	if taken < 5000 {
		t.Errorf("only %d sources are taken", taken)
	}
}

// Each token alone is read as it was: nothing around it makes it what it is, but a line.
func TestLe2TokensAlone(t *testing.T) {
	for _, s := range sources() {
		l, _ := lexer.Lex(s)
		for _, k := range l {
			text := k.Text
			if k.Kind == api.TokTick {
				text = "`" + text
			}
			if k.Kind == api.TokLine || k.Kind == api.TokEnd {
				continue
			}
			alone, d := lexer.Lex(text)
			want := []api.Token{{Kind: k.Kind, Text: k.Text}, {Kind: api.TokEnd, At: len(text)}}
			if !slices.Equal(alone, want) || len(d) != 0 {
				t.Fatalf("Lex(%q): %v %v", text, alone, d)
			}
		}
	}
}

// A number is a token just if it is a number's text.
func TestLe2NumbersAreTokens(t *testing.T) {
	for _, s := range append(noNumbers(), "0", "4294967295", "4'bx", "256'hz1", "1'd2147483647") {
		_, _, e := lexer.Number(s)
		l, d := lexer.Lex(s)
		is := len(d) == 0 && len(l) == 2 && l[0] == (api.Token{Kind: api.TokNumber, Text: s})
		if is != (e == api.OK) {
			t.Errorf("Lex(%.80q): %v %v, Number: %d", s, l, d, e)
		}
	}
}

// R1: whatever the bytes are, a call ends.
func TestR1AnyBytes(t *testing.T) {
	seed := uint32(3)
	for n := range 3000 {
		b := make([]byte, n%200)
		for i := range b {
			seed = seed*1664525 + 1013904223
			b[i] = byte(seed >> 16)
		}
		lexer.Lex(string(b))
		lexer.Number(string(b))
	}
	lexer.Number(strings.Repeat("9", 1<<20))
	lexer.Number("256'h" + strings.Repeat("f", 1<<20))
	lexer.Lex(strings.Repeat("/*", 1<<15))
	lexer.Lex(strings.Repeat("`define\n", 1<<13))
}

// R3 and R4: an answer is new memory, and hangs on the source alone.
func TestR3R4NewAnswers(t *testing.T) {
	s := "`define a 4'b1\nb <= c"
	first, _ := lexer.Lex(s)
	kept := slices.Clone(first)
	for i := range first {
		first[i] = api.Token{}
	}
	lexer.Lex("x $")
	lexIs(t, s, kept)
	_, d := lexer.Lex("x $")
	d[0] = api.Diag{}
	refusedIs(t, "x $", 2, api.ErrByte)
}
