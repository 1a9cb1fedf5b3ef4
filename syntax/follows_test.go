package syntax_test

import (
	"fmt"
	"reflect"
	"silkworm/api"
	"silkworm/syntax"
	"slices"
	"strings"
	"testing"
)

// each calls f with each value within another one, itself too.
func each(v reflect.Value, f func(reflect.Value)) {
	f(v)
	switch v.Kind() {
	case reflect.Slice:
		for i := range v.Len() {
			each(v.Index(i), f)
		}
	case reflect.Struct:
		for i := range v.NumField() {
			each(v.Field(i), f)
		}
	}
}

// Sy2 and R2: there is an end, with modules whose places are those of tokens, or with one reason at a token.
func TestSy2Places(t *testing.T) {
	d := dice(3)
	for i := range 4000 {
		_, l := writeSource(&d, 10+i%100)
		if i%2 == 0 {
			l = d.spoilt(l)
		}
		place := map[int]int{}
		for _, x := range l {
			place[x.At]++
		}
		m, why := syntax.Parse(l)
		if len(why) > 1 || (len(why) == 1) == (len(m) > 0) || len(why) == 1 && (place[why[0].At] == 0 || why[0].Code != api.ErrSyntax) {
			t.Fatalf("%s: %v %v", textOf(l), m, why)
		}
		each(reflect.ValueOf(m), func(v reflect.Value) {
			if v.Kind() != reflect.Struct || v.IsZero() || v.Type() == reflect.TypeFor[api.Arm]() {
				return
			}
			if place[int(v.FieldByName("At").Int())] == 0 {
				t.Fatalf("%s: no token's place: %+v", textOf(l), v)
			}
		})
	}
}

// inBrackets is tokens with brackets around those from one on up to another one; their places are those of what they stand at.
func inBrackets(l []api.Token, from, to int) []api.Token {
	var out []api.Token
	out = append(out, l[:from]...)
	out = append(out, api.Token{Kind: api.TokSign, Text: "(", At: l[from].At})
	out = append(out, l[from:to]...)
	out = append(out, api.Token{Kind: api.TokSign, Text: ")", At: l[to].At})
	return append(out, l[to:]...)
}

// Sy2: brackets around an expression change nothing but its depth.
func TestSy2Brackets(t *testing.T) {
	d := dice(7)
	for i := range 3000 {
		w := writer{dice: d, size: 5 + i%40}
		for _, s := range strings.Fields("module m ( ) ; assign y =") {
			w.put(s)
		}
		from := len(w.list)
		want := w.expr(5)
		to := len(w.list)
		w.puts(";", "endmodule")
		l := append(w.list, api.Token{Kind: api.TokEnd, At: w.at})
		for range d.roll(6) {
			l = inBrackets(l, from, to)
			to += 2
		}
		m := read(t, l)
		if !same(m[0].Items[0].Value, want) {
			t.Fatalf("%s: %+v, not %+v", textOf(l), m[0].Items[0].Value, want)
		}
		d = w.dice
	}
	for _, p := range places() {
		plain := read(t, tokens(t, p.before+"   a + b   "+p.after))
		wrapped := read(t, tokens(t, p.before+"(((a + b)))"+p.after))
		if !same(plain, wrapped) {
			t.Errorf("%q: %+v, then %+v", p.before, plain, wrapped)
		}
	}
	exprIs(t, "(a) + (b)", "(+@4 a@1 b@7)")
	exprIs(t, "((a) ? (b) : (c))", "(?@5 a@2 b@8 c@14)")
	exprIs(t, "(a ? b : c) ? d : e", "(?@12 (?@3 a@1 b@5 c@9) d@14 e@18)")
	exprIs(t, "(a + b)", "(+@3 a@1 b@5)")
	exprIs(t, "{(a), (b + c)}", "{@0 a@2 (+@9 b@7 c@11)}")
	exprIs(t, "a[(1)]", "a@0[1@3]")
}

// freeList is tokens of which nothing holds that should: any kinds, places and texts, ends among them or none at all.
func freeList(d *dice) []api.Token {
	all := alphabet()
	_, l := writeSource(d, 60)
	l = slices.Clone(l[:d.roll(len(l)+1)])
	for i := range l {
		switch d.roll(40) {
		case 0:
			l[i].Kind = d.roll(12) - 3
		case 1:
			l[i].Text = d.one("", "N", "define", "\x00", "9999999999", "1'", "module", "(")
		case 2:
			l[i].At = d.roll(100) - 50
		case 3:
			l[i] = all[d.roll(len(all))]
		}
	}
	return l
}

// R1: whatever is handed in, a call ends.
func TestR1AnyTokens(t *testing.T) {
	d := dice(23)
	for range 20000 {
		l := freeList(&d)
		if m, why := syntax.Parse(l); len(why) > 1 || len(why) == 1 && len(m) != 0 {
			t.Fatalf("%v: %v %v", l, m, why)
		}
	}
	syntax.Parse(nil)
	syntax.Parse([]api.Token{})
	for _, x := range append(alphabet(), api.Token{}, api.Token{Kind: -1 << 63, At: -1 << 63}, api.Token{Kind: api.TokEnd}, api.Token{Kind: api.TokTick, Text: "a"}, api.Token{Kind: api.TokLine}) {
		for _, before := range corpus() {
			l := tokens(t, before)
			for n := range l {
				syntax.Parse(append(slices.Clone(l[:n]), slices.Repeat([]api.Token{x}, 40)...))
			}
		}
		syntax.Parse(slices.Repeat([]api.Token{x}, 1<<20))
	}
	many := asExpr(t, "a")
	at := len(many) - 3
	syntax.Parse(slices.Concat(many[:at], slices.Repeat([]api.Token{{Kind: api.TokSign, Text: "+"}, {Kind: api.TokName, Text: "a"}}, 1<<18), many[at:]))
}

// Tokens whose kind is another one than their text lets think follow nowhere that the text would.
func TestSy1KindsCount(t *testing.T) {
	l := tokens(t, "module m(input a); assign y = a + 1; always @(*) y = a; endmodule")
	read(t, l)
	for i, here := range l {
		for kind := range 9 {
			// A word or sign as a name would be one; the end comes last alone.
			if kind == here.Kind || kind == api.TokEnd || kind == api.TokName {
				continue
			}
			spoilt := slices.Clone(l)
			spoilt[i].Kind = kind
			if kind == api.TokNumber && here.Text == "a" {
				spoilt[i].Text = "1x"
			}
			refusedIs(t, spoilt, here.At, api.ErrSyntax)
		}
	}
}

// R3: what is handed in, and the room behind it, is neither changed nor kept nor handed out.
func TestR3NewAnswers(t *testing.T) {
	d := dice(31)
	var sources [][]api.Token
	for _, s := range append(corpus(), "module m(); wire", "module m(); assign a = "+strings.Repeat("(", 40)) {
		sources = append(sources, tokens(t, s))
	}
	for i := range 200 {
		_, l := writeSource(&d, 20+i)
		sources = append(sources, l)
	}
	for _, l := range sources {
		whole := append(slices.Clone(l), api.Token{Kind: api.TokName, Text: "module", At: 1}, api.Token{Kind: api.TokEnd, At: 2})
		before := slices.Clone(whole)
		m, why := syntax.Parse(whole[:len(l)])
		kept := fmt.Sprintf("%+v %v", m, why)
		if !slices.Equal(whole, before) {
			t.Errorf("%s: changed", textOf(l))
		}
		ownLists(t, m)
		clear(whole)
		if fmt.Sprintf("%+v %v", m, why) != kept {
			t.Errorf("%s: what was told hangs on what was handed in", textOf(l))
		}
		m, why = syntax.Parse(l)
		if fmt.Sprintf("%+v %v", m, why) != kept {
			t.Errorf("%s: told otherwise the second time", textOf(l))
		}
	}
}

// ownLists tells that no two lists of one answer share memory.
func ownLists(t *testing.T, m []api.Module) {
	t.Helper()
	type room struct{ from, to uintptr }
	var all []room
	each(reflect.ValueOf(m), func(v reflect.Value) {
		if v.Kind() == reflect.Slice && v.Cap() > 0 {
			all = append(all, room{v.Pointer(), v.Pointer() + uintptr(v.Cap())*v.Type().Elem().Size()})
		}
	})
	slices.SortFunc(all, func(a, b room) int {
		if a.from < b.from {
			return -1
		}
		return 1
	})
	for i := 1; i < len(all); i++ {
		if all[i-1].to > all[i].from {
			t.Errorf("%+v: two lists share memory", m)
			return
		}
	}
}

// R4: what an earlier call was told is not there in a later one.
func TestR4NothingIsKept(t *testing.T) {
	for range 3 {
		modulesAre(t, "module m(); endmodule", api.Module{Name: "m"})
		refusedIs(t, tokens(t, "module m(); for (i = 0; 1; j = 0) begin : g end endmodule"), 27, api.ErrSyntax)
		refusedIs(t, tokens(t, "endmodule"), 0, api.ErrSyntax)
		refusedIs(t, asExpr(t, strings.Repeat("~", 40)), 32, api.ErrDeep)
		exprIs(t, "~x", "(~@0 x@1)")
		refusedIs(t, asStmt(t, "else"), 0, api.ErrSyntax)
	}
}

// R2: a list without an end is refused at its last token.
func TestR2NoEnd(t *testing.T) {
	l := tokens(t, "module m(); wire a; endmodule")
	for i := 1; i < len(l); i++ {
		refusedIs(t, l[:i], l[i-1].At, api.ErrSyntax)
	}
	refusedIs(t, nil, 0, api.ErrSyntax)
	refusedIs(t, []api.Token{}, 0, api.ErrSyntax)
}
