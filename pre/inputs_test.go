package pre_test

import (
	"silkworm/api"
	"silkworm/lexer"
	"strings"
	"testing"
)

// tokens is a source's tokens. Ticks are written as ' in the sources of the tests.
func tokens(t *testing.T, s string) []api.Token {
	t.Helper()
	l, d := lexer.Lex(strings.ReplaceAll(s, "'", "`"))
	if len(d) != 0 {
		t.Fatalf("%.80q is no source: %v", s, d)
	}
	return l
}

// words is what lists of the tests are put together from.
func words() []api.Token {
	var all []api.Token
	for _, s := range strings.Fields("define undef ifdef ifndef else endif A B") {
		all = append(all, api.Token{Kind: api.TokTick, Text: s})
	}
	return append(all, api.Token{Kind: api.TokName, Text: "A"}, api.Token{Kind: api.TokName, Text: "B"}, api.Token{Kind: api.TokNumber, Text: "1"}, api.Token{Kind: api.TokLine})
}

// smallLists calls f with each list of up to so many words and an end. The list is used again behind the call.
func smallLists(most int, f func([]api.Token)) {
	all := words()
	l := make([]api.Token, most+1)
	var fill func(n, i int)
	fill = func(n, i int) {
		if i == n {
			l[n] = api.Token{Kind: api.TokEnd, At: 2*n + 5}
			f(l[: n+1 : n+1])
			return
		}
		for _, w := range all {
			w.At = 2*i + 1
			l[i] = w
			fill(n, i+1)
		}
	}
	for n := range most + 1 {
		fill(n, 0)
	}
}

type dice uint32

func (d *dice) roll(n int) int {
	*d = *d*1664525 + 1013904223
	return int(*d>>8) % n
}

func (d *dice) one(list ...string) string {
	return list[d.roll(len(list))]
}

// body is what a name stands for in the larger sources: few tokens, at times ones that double, come around, or are faulty.
func (d *dice) body() string {
	b := ""
	for range d.roll(6) {
		switch d.roll(24) {
		case 0:
			b += d.one(" 'define C", " 'else", " 'endif", " 'ifdef A", " 'undef A", " 'N", " x", " 1")
		case 1, 2, 3, 4:
			b += d.one(" 'A", " 'B", " 'C", " 'D", " 'D", " 'D")
		default:
			b += d.one(" x", " 1", " ;", " define", " <=")
		}
	}
	return b
}

// largeSource is a source in which most uses and parts are as they should be.
func largeSource(d *dice) string {
	b := ""
	for _, name := range []string{"A", "B", "C", "D"} {
		if d.roll(12) > 0 {
			b += "'define " + name + d.body() + "\n"
		}
	}
	var turned []bool
	for range d.roll(60) {
		inside := len(turned) > 0
		switch d.roll(16) {
		case 0, 1:
			b += d.one("'ifdef ", "'ifndef ") + d.one("A ", "B ", "C ", "N ")
			turned = append(turned, false)
		case 2, 3:
			if inside && !turned[len(turned)-1] || d.roll(40) == 0 {
				b += "'else "
			}
			if inside {
				turned[len(turned)-1] = true
			}
		case 4:
			if inside || d.roll(40) == 0 {
				b += "'endif "
				turned = turned[:max(len(turned)-1, 0)]
			}
		case 5:
			b += "'define " + d.one("A", "B", "C", "N") + d.body() + d.one("\n", "\n", "\n", " ")
		case 6:
			b += d.one("", "", "", "'undef "+d.one("A", "B", "N", "")+"\n")
		case 7, 8, 9:
			b += d.one("'A ", "'B ", "'C ", "'D ")
		default:
			b += d.one("x ", "1 ", "; ", "A ", "\n", "ifdef ", "4 ")
		}
	}
	// At times one endif too many, or too few.
	return b + strings.Repeat("'endif ", max(len(turned)+d.roll(12)/11-d.roll(12)/11, 0))
}

// freeList is tokens of which nothing holds that should: any kinds, places and texts, ends among them or none at all.
func freeList(d *dice) []api.Token {
	all := words()
	l := make([]api.Token, d.roll(60))
	for i := range l {
		t := all[d.roll(len(all))]
		if d.roll(4) == 0 {
			t.Kind = d.roll(12) - 3
		}
		if d.roll(10) == 0 {
			t.Text = d.one("", "N", "define", "\x00", "else")
		}
		t.At = d.roll(100) - 50
		l[i] = t
	}
	return l
}
