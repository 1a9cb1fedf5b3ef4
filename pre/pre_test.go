package pre_test

import (
	"silkworm/api"
	"silkworm/pre"
	"slices"
	"strconv"
	"strings"
	"testing"
)

func runIs(t *testing.T, l, want []api.Token) {
	t.Helper()
	if got, d := pre.Run(l); !slices.Equal(got, want) || len(d) != 0 {
		t.Errorf("%.300v: %.300v %v, not %.300v", l, got, d, want)
	}
}

func refusedIs(t *testing.T, s string, at int, e api.Errno) {
	t.Helper()
	if l, d := pre.Run(tokens(t, s)); len(l) != 0 || !slices.Equal(d, reason(at, e)) {
		t.Errorf("%.300q: %d tokens, %v, not %d at %d", s, len(l), d, e, at)
	}
}

// told is the texts that are kept with their places, the end's last.
func told(t *testing.T, s string) string {
	t.Helper()
	l, d := pre.Run(tokens(t, s))
	if len(d) != 0 {
		return "refused: " + strconv.Itoa(int(d[0].Code)) + " at " + strconv.Itoa(d[0].At)
	}
	var b strings.Builder
	for i, x := range l {
		if (x.Kind == api.TokEnd) != (i == len(l)-1) || x.Kind == api.TokLine || x.Kind == api.TokTick {
			t.Errorf("%q: %v", s, l)
		}
		b.WriteString(x.Text + "@" + strconv.Itoa(x.At) + " ")
	}
	return strings.TrimSuffix(b.String(), " ")
}

func toldIs(t *testing.T, s, want string) {
	t.Helper()
	if got := told(t, s); got != want {
		t.Errorf("%q: %q, not %q", s, got, want)
	}
}

func TestPr1Examples(t *testing.T) {
	toldIs(t, "'define A 1 + 1\n'A 'A", "1@16 +@16 1@16 1@19 +@19 1@19 @21")
	refusedIs(t, "'define B 'B\n'B", 13, api.ErrFuel)
	runIs(t, tokens(t, "'define A x <= 12;\n'A"), []api.Token{
		{Kind: api.TokName, Text: "x", At: 19}, {Kind: api.TokSign, Text: "<=", At: 19}, {Kind: api.TokNumber, Text: "12", At: 19},
		{Kind: api.TokSign, Text: ";", At: 19}, {Kind: api.TokEnd, At: 21},
	})
}

func TestPr1Defines(t *testing.T) {
	for s, want := range map[string]string{
		"": "@0", "a b": "a@0 b@2 @3", "'define A 1": "@11", "'define A 1\n": "@12", "'define A": "@9", "'define A\n": "@10", "'define A\n'A": "@12", "x 'define A 1\ny": "x@0 y@14 @15",
		"'define A 1\n'define A 2\n'A": "2@24 @26", "'define A 1\n'define A\n'A": "@24", "'define A 1\n'A 'define A 2\n'A": "1@12 2@27 @29", "'define A\n'define A 3\n'A": "3@22 @24",
		"'define A 1 // c\n'A": "1@17 @19", "'define A 1 /*\n*/ 2\n'A": "1@20 2@20 @22", "'define A B\n'define B 2\n'A": "B@24 @26",
		"'undef A": "@8", "'undef A\nx": "x@9 @10", "'define A 1\n'undef A\nA": "A@21 @22", "'define A 1\n'undef A\n'define A 2\n'A": "2@33 @35", "'define A 1\n'undef B 'A": "1@21 @23", "'undef A 'undef A x": "x@18 @19",
		"'define A 'define B 2\n": "@22", "'define A 'else 'endif 'N\nx": "x@26 @27", "'define define 1\n'define else 2\nx": "x@32 @33", "'define module 1\n'module": "1@17 @24",
		"'define A 1\n'A A": "1@12 A@15 @16", "'define A A\n'A": "A@12 @14", "'define A 1\n'a": "refused: 30 at 12",
	} {
		toldIs(t, s, want)
	}
}

func TestPr1Parts(t *testing.T) {
	for s, want := range map[string]string{
		"'ifdef A x 'endif y":                                     "y@18 @19",
		"'ifndef A x 'endif y":                                    "x@10 y@19 @20",
		"'ifdef A x 'else y 'endif z":                             "y@17 z@26 @27",
		"'ifndef A x 'else y 'endif z":                            "x@10 z@27 @28",
		"'define A\n'ifdef A x 'else y 'endif":                    "x@19 @35",
		"'define A 1\n'ifndef A x 'else y 'endif":                 "y@30 @38",
		"'define A 1\n'undef A\n'ifdef A x 'else y 'endif":        "y@38 @46",
		"'ifdef A 'endif":                                         "@15",
		"'ifdef A 'else 'endif":                                   "@21",
		"'ifdef A 'else x 'endif 'ifndef A y 'endif":              "x@15 y@34 @42",
		"'ifndef A 'define A 1\n'endif 'A":                        "1@29 @31",
		"'ifndef A 'define A 1\n x 'else y 'endif z":              "x@23 z@40 @41",
		"'define A\n'ifdef A 'undef A x 'else y 'endif":           "x@28 @44",
		"'ifdef A 'define B 1\n'endif 'ifdef B x 'endif":          "@45",
		"'define A\n'ifndef A 'undef A\n'endif 'ifdef A x 'endif": "x@45 @53",
		"'ifdef define x 'endif":                                  "@22",
		"'define define\n'ifdef define x 'endif":                  "x@29 @37",
		"'ifdef A 'N 'undef 'define 'undef 1 'endif x":            "x@43 @44",
		"'ifdef A 'define 'else x 'endif\n":                       "x@23 @32",
		"'ifdef A 'define B 'endif x\ny":                          "x@26 y@28 @29",
		"'define A\n'ifdef A x 'else 'N 'undef 'define 'endif y":  "x@19 y@52 @53",
		"'define A x 'endif\n'ifdef A y 'endif":                   "y@28 @36",
	} {
		toldIs(t, s, want)
	}
}

func TestPr1PartsWithinOneAnother(t *testing.T) {
	// N stands for nothing, S for something.
	for s, want := range map[string]string{
		"'ifdef S a 'ifdef S b 'else c 'endif d 'else e 'endif f":                          "a b d f",
		"'ifdef S a 'ifdef N b 'else c 'endif d 'else e 'endif f":                          "a c d f",
		"'ifdef N a 'ifdef S b 'else c 'endif d 'else e 'endif f":                          "e f",
		"'ifdef N a 'ifdef N b 'else c 'endif d 'else e 'endif f":                          "e f",
		"'ifndef S a 'ifndef N b 'endif c 'endif d":                                        "d",
		"'ifndef N a 'ifndef S b 'endif c 'endif d":                                        "a c d",
		"'ifndef N a 'ifndef N b 'endif c 'endif d":                                        "a b c d",
		"'ifdef S a 'else 'ifdef S b 'else c 'endif d 'endif e":                            "a e",
		"'ifdef N a 'else 'ifdef S b 'else c 'endif d 'endif e":                            "b d e",
		"'ifdef N a 'else 'ifdef N b 'else c 'endif d 'endif e":                            "c d e",
		"'ifdef N 'ifdef N 'ifdef N a 'else b 'endif c 'else d 'endif e 'else f 'endif g":  "f g",
		"'ifdef N 'define N 1\n 'ifdef N a 'else b 'endif 'else c 'endif":                  "c",
		"'ifdef S 'ifdef N 'else 'ifndef N a 'else b 'endif c 'endif d 'endif e":           "a c d e",
		"'ifdef S 'undef S 'ifdef S a 'else b 'endif c 'else d 'endif 'ifdef S e 'endif f": "b c f",
		"'ifdef N 'define 'ifdef S a 'endif b 'endif c\nd":                                 "c d",
	} {
		s = "'define S 1\n" + s
		var texts []string
		for _, x := range strings.Fields(told(t, s)) {
			text, _, _ := strings.Cut(x, "@")
			texts = append(texts, text)
		}
		if got := strings.TrimSpace(strings.Join(texts, " ")); got != want {
			t.Errorf("%q: %q, not %q", s, got, want)
		}
	}
	deep := strings.Repeat("'ifndef N ", 3000)
	toldIs(t, deep+"x"+strings.Repeat(" 'endif", 3000), "x@30000 @51001")
	deep = strings.Repeat("'ifdef N ", 3000)
	toldIs(t, deep+"x"+strings.Repeat(" 'endif", 3000), "@48001")
}

func TestPr1Uses(t *testing.T) {
	for s, want := range map[string]string{
		"'define E\n'E": "@12", "'define E\nx 'E y 'E": "x@10 y@15 @19", "'define E\n'define A 'E 'E\n'A x": "x@29 @30",
		"'define A 'B 1\n'define B 2 'C 3\n'define C 4\n'A 'C": "2@44 4@44 3@44 1@44 4@47 @49",
		"'define A 'B\n'define B 1\n'A 'define B 2\n'A":        "1@25 2@40 @42",
		"'define B 1\n'define A 'B\n'undef B 'define B 3\n'A":  "3@46 @48",
		"'define A 'B\n'define B\n'A x":                        "x@26 @27",
		"'define A x\n'ifdef A 'A 'endif":                      "x@21 @30",
		"'define A ifdef A\nx 'A":                              "x@18 ifdef@20 A@20 @22",
	} {
		toldIs(t, s, want)
	}
}

func TestPr1Refused(t *testing.T) {
	for _, x := range []struct {
		s  string
		at int
	}{
		{"'define", 0}, {"'define\nA", 0}, {"x 'define 1 A\n", 2}, {"'define 'A\n", 0}, {"'define ; A", 0}, {"'undef", 0}, {" 'undef 1", 1}, {"'undef 'A", 0}, {"'ifdef", 0}, {"'ifdef 1 'endif", 0}, {"'ifdef 'endif", 0},
		{"'ifndef", 0}, {"x 'ifndef ( A 'endif", 2}, {"'ifndef 'A 'endif", 0}, {"'ifdef N 'define 'else 'undef \n A 'endif", 23}, {"'ifdef N 'define 'else 'ifdef\n A 'endif 'endif", 23},
		{"'else", 0}, {"'endif", 0}, {"x 'else 'endif", 2}, {"x 'endif", 2}, {"'ifdef A 'endif 'endif", 16}, {"'ifdef A 'endif 'else", 16}, {"'ifdef A 'else 'endif 'else", 22}, {"'ifdef A 'else 'endif 'endif", 22},
		{"'ifdef A 'else 'else 'endif", 15}, {"'ifndef A 'else x 'else 'endif", 18}, {"'ifdef A 'ifdef B 'else 'else 'endif 'endif", 24}, {"'ifdef A 'else 'ifdef B 'else 'endif 'else 'endif", 37}, {"'ifndef A 'ifndef A 'else 'else", 26},
		{"'ifdef N 'ifdef 'endif 'endif", 9}, {"'ifdef N 'ifndef 1 'endif 'endif", 9}, {"'ifdef N 'ifdef N 'else 'else 'endif 'endif", 24}, {"'ifdef N 'define A 'endif\n'endif", 26},
		{"'A", 0}, {"x 'A", 2}, {"'define A 1\n'B", 12}, {"'define A 1\n'undef A 'A", 21}, {"'A 'define A 1\n'A", 0}, {"A 'A", 2},
		{"'define A 'B\n'A", 13}, {"'define A 'B\n'define B 'C\n'A", 26}, {"'define A 1 'B 2\n'define B 3\n'undef B x 'A", 40}, {"'define A x 'B\n'A 'A", 15},
		{"'define A 'define B 1\n'A", 22}, {"'define A 'undef A\n'A", 19}, {"'define A 'ifdef A\n'A 'endif", 19}, {"'define A 'ifndef A\n'A 'endif", 20}, {"'ifdef N 'else 'define A 'else\n'A 'endif", 31},
		{"'define A 'endif\n'ifdef A 'A", 26}, {"'define A 1 'B\n'define B 2 'else\nx 'A", 35}, {"'define else 1\n'define A 'else\n'A", 31}, {"'define define 1\n'define A 'define\n'A", 35}, {"'define else 1\n'else", 15},
		{"'ifdef A", 0}, {"'ifndef A x", 0}, {"x 'ifdef A 'else", 2}, {"'ifdef A 'ifdef B 'endif", 0}, {"'ifdef A 'endif 'ifdef A 'ifndef B", 16}, {"'ifndef A 'ifndef B x", 0}, {"'ifdef A 'ifdef B 'endif 'else", 0},
	} {
		refusedIs(t, x.s, x.at, api.ErrDirect)
	}
}

// A directive's word may be a name, but a tick with it is no use.
func TestPr1WordsOfDirectives(t *testing.T) {
	for _, word := range []string{"define", "undef", "ifdef", "ifndef", "else", "endif"} {
		names := define(word, "x")
		toldIs(t, names+"'ifdef "+word+" y 'endif", "y@"+strconv.Itoa(len(names)+len(word)+8)+" @"+strconv.Itoa(len(names)+len(word)+16))
		names += define("A", "1 '"+word+" A")
		refusedIs(t, names+"x 'A", len(names)+2, api.ErrDirect)
		names += define("B", "'A")
		refusedIs(t, names+"x 'B", len(names)+2, api.ErrDirect)
	}
}

// Of several faults the one that is met first counts, and an ifdef that does not end is behind all others.
func TestPr1FirstFault(t *testing.T) {
	for _, x := range []struct {
		s  string
		at int
		e  api.Errno
	}{
		{"'A 'else 'define", 0, api.ErrDirect}, {"'else 'A", 0, api.ErrDirect}, {"'ifdef A 'else 'A 'else", 15, api.ErrDirect}, {"'ifdef A 'N 'else 'undef", 18, api.ErrDirect},
		{"'ifdef A x 'endif 'ifdef B 'else 'N", 33, api.ErrDirect}, {"'ifdef A 'ifdef", 9, api.ErrDirect}, {"'ifdef A 'define B 'B\n'else 'define B 'B\n'B", 41, api.ErrFuel},
		{"'define B 'B\n'N 'B", 13, api.ErrDirect}, {"'define B 'B\n'B 'N", 13, api.ErrFuel}, {"'define B 'B\n'ifdef N 'B 'else 'B", 31, api.ErrFuel}, {"'define B 'B\n'ifdef N 'endif 'define\n'B", 29, api.ErrDirect},
		{"'define B 'N 'B\n'B", 16, api.ErrDirect}, {"'define B 'B 'N\n'B", 16, api.ErrFuel}, {"'define B 'else 'B\n'B", 19, api.ErrDirect}, {"'define B 'B 'else\n'B", 19, api.ErrFuel},
		{"'define A 'B 'N\n'define B 'A\n'A", 29, api.ErrFuel}, {"'define A 'B\n'define B 'N 'A\n'A", 29, api.ErrDirect},
	} {
		refusedIs(t, x.s, x.at, x.e)
	}
}

func TestPr1AsTheChapterSays(t *testing.T) {
	kept := 0
	is := func(l []api.Token) {
		got, d := pre.Run(l)
		wantL, wantD := wantRun(l)
		if !slices.Equal(got, wantL) || !slices.Equal(d, wantD) {
			t.Fatalf("%v: %v %v, not %v %v", l, got, d, wantL, wantD)
		}
		if len(d) == 0 {
			kept++
		}
	}
	smallLists(5, is)
	if kept < 5000 {
		t.Errorf("only %d small lists are taken", kept)
	}
	kept = 0
	d := dice(5)
	for range 40000 {
		is(tokens(t, largeSource(&d)))
	}
	if kept < 5000 || kept > 35000 {
		t.Errorf("%d of 40000 sources are taken", kept)
	}
}
