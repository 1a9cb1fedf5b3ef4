package pre_test

import (
	"silkworm/api"
	"silkworm/pre"
	"slices"
	"strings"
	"testing"
)

func TestPr2WithoutTicks(t *testing.T) {
	for _, s := range []string{
		"", " ", "x", "a b", "module m(input a, output y); assign y = ~a; endmodule", "define A 1\nifdef A else endif undef A", "a <= 4294967295; // 'A\n/* 'else */", strings.Repeat(";", 16384), xs(16384),
	} {
		l := tokens(t, s)
		runIs(t, l, slices.Clone(l))
	}
	// Places that stay the same, and texts and kinds that no source has.
	runIs(t, []api.Token{{Kind: api.TokEnd}}, []api.Token{{Kind: api.TokEnd}})
	runIs(t, []api.Token{{Kind: api.TokEnd, At: 1 << 60}}, []api.Token{{Kind: api.TokEnd, At: 1 << 60}})
	odd := []api.Token{{Kind: api.TokName}, {Kind: api.TokNumber, Text: "define"}, {Kind: api.TokSign, Text: "`else"}, {Kind: api.TokName, Text: "ifdef", At: 7}, {Kind: api.TokEnd, At: 7}}
	runIs(t, odd, slices.Clone(odd))
}

// Lines are left out wherever they stand, and texts may be any.
func TestPr1ListsOfNoSource(t *testing.T) {
	line, end := api.Token{Kind: api.TokLine}, api.Token{Kind: api.TokEnd, At: 9}
	tick := func(s string) api.Token { return api.Token{Kind: api.TokTick, Text: s, At: 4} }
	x, none := api.Token{Kind: api.TokSign, Text: "x"}, api.Token{Kind: api.TokName}
	runIs(t, []api.Token{line, x, line, line, end}, []api.Token{x, end})
	runIs(t, []api.Token{tick("define"), none, x, x, line, tick(""), end}, []api.Token{{Kind: api.TokSign, Text: "x", At: 4}, {Kind: api.TokSign, Text: "x", At: 4}, end})
	runIs(t, []api.Token{tick("define"), none, {Kind: api.TokLine, Text: "x"}, x, tick("undef"), none, end}, []api.Token{x, end})
	for _, l := range [][]api.Token{{tick(""), end}, {tick("define"), line, none, end}, {tick("undef"), line, none, end}, {tick("ifdef"), x, tick("endif"), end}, {tick("define"), {Kind: api.TokNumber, Text: "A"}, end}} {
		if got, d := pre.Run(l); len(got) != 0 || !slices.Equal(d, reason(4, api.ErrDirect)) {
			t.Errorf("%v: %v %v", l, got, d)
		}
	}
	full := slices.Repeat([]api.Token{x}, 16383)
	runIs(t, append(slices.Clone(full), line, end), append(slices.Clone(full), end))
	runIs(t, append(slices.Clone(full), x, end), append(slices.Clone(full), x, end))
}

// Pr2 and R2: there is an end, with tokens that a source could have, or with one reason at a token of the source.
func TestPr2Ends(t *testing.T) {
	d := dice(17)
	for range 20000 {
		l := tokens(t, largeSource(&d))
		got, why := pre.Run(l)
		place := func(at int) bool {
			return slices.ContainsFunc(l, func(t api.Token) bool { return t.At == at })
		}
		if len(why) > 0 {
			if len(why) != 1 || len(got) != 0 || !place(why[0].At) || !slices.Contains([]api.Errno{api.ErrDirect, api.ErrFuel, api.ErrFull}, why[0].Code) {
				t.Fatalf("%v: %v %v", l, got, why)
			}
			continue
		}
		for i, x := range got {
			if x.Kind == api.TokLine || x.Kind == api.TokTick || (x.Kind == api.TokEnd) != (i == len(got)-1) || !place(x.At) || i > 0 && x.At < got[i-1].At {
				t.Fatalf("%v: %v", l, got)
			}
		}
		again, why := pre.Run(got)
		if !slices.Equal(again, got) || len(why) != 0 {
			t.Fatalf("%v: %v, then %v %v", l, got, again, why)
		}
	}
}

// R1: whatever is handed in, a call ends.
func TestR1AnyTokens(t *testing.T) {
	d := dice(23)
	for range 100000 {
		l := freeList(&d)
		if got, why := pre.Run(l); len(why) > 1 || len(why) == 1 && len(got) != 0 {
			t.Fatalf("%v: %v %v", l, got, why)
		}
	}
	pre.Run(nil)
	pre.Run([]api.Token{})
	for _, x := range append(words(), api.Token{}, api.Token{Kind: -1 << 63, At: -1 << 63}, api.Token{Kind: api.TokEnd}) {
		pre.Run([]api.Token{x})
		for _, n := range []int{16384, 16385, 16386, 1 << 20} {
			pre.Run(slices.Repeat([]api.Token{x}, n))
		}
	}
	many := tokens(t, define("E", "")+define("A", strings.Repeat("'E ", 4096))+"'A")
	pre.Run(slices.Concat(many, slices.Repeat(many[len(many)-2:], 1<<20)))
}

// R3: what is handed in, and the room behind it, is neither changed nor kept nor handed out.
func TestR3NewAnswers(t *testing.T) {
	for _, s := range []string{"a b c", "'define A 1 2\n'A 'A x", "'define A x 'B y\n'define B 2\n'A 'A", "'ifdef A x 'else y z 'endif w", "'define A 1 'N", "'define A 'A x\n'A", "'define E\n'E x 'E", "'else"} {
		whole := append(tokens(t, s), api.Token{Kind: api.TokName, Text: "behind", At: 77}, api.Token{Kind: api.TokTick, Text: "else", At: 78})
		before := slices.Clone(whole)
		l := whole[:len(whole)-2]
		first, why := pre.Run(l)
		kept, keptWhy := slices.Clone(first), slices.Clone(why)
		if !slices.Equal(whole, before) {
			t.Errorf("%q: changed to %v", s, whole)
		}
		for i := range first {
			first[i] = api.Token{Text: "spoilt"}
		}
		for i := range why {
			why[i] = api.Diag{}
		}
		if !slices.Equal(whole, before) {
			t.Errorf("%q: shared", s)
		}
		second, why := pre.Run(l)
		clear(whole)
		if !slices.Equal(second, kept) || !slices.Equal(why, keptWhy) {
			t.Errorf("%q: %v %v, then %v %v", s, kept, keptWhy, second, why)
		}
	}
}

// R4: what an earlier call was told is not there in a later one.
func TestR4NothingIsKept(t *testing.T) {
	for range 3 {
		toldIs(t, "'define A 1\n'A", "1@12 @14")
		refusedIs(t, "'A", 0, api.ErrDirect)
		refusedIs(t, "'ifdef A", 0, api.ErrDirect)
		refusedIs(t, "'endif", 0, api.ErrDirect)
		refusedIs(t, "'define A 'A\n'A", 13, api.ErrFuel)
		toldIs(t, "'ifdef A x 'endif", "@17")
	}
}
