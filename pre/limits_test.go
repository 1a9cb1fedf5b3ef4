package pre_test

import (
	"silkworm/api"
	"silkworm/pre"
	"strconv"
	"strings"
	"testing"
)

// keptIs tells how many tokens are kept, the end not counted, each of which but the end is x.
func keptIs(t *testing.T, s string, n int) {
	t.Helper()
	l, d := pre.Run(tokens(t, s))
	if len(d) != 0 || len(l) != n+1 || l[n] != (api.Token{Kind: api.TokEnd, At: len(s)}) {
		t.Errorf("%.60q: %d tokens, %v, not %d", s, len(l), d, n)
		return
	}
	for _, x := range l[:n] {
		if x.Kind != api.TokName || x.Text != "x" {
			t.Errorf("%.60q: %v", s, x)
		}
	}
}

func define(name, body string) string {
	return "'define " + name + " " + body + "\n"
}

func xs(n int) string {
	return strings.Repeat("x ", n)
}

// fuelIs runs a use of A behind the defines: so many tokens are kept of it, or, below 0, too many come.
func fuelIs(t *testing.T, defines string, kept int) {
	t.Helper()
	if kept < 0 {
		refusedIs(t, defines+"x 'A 'N 'else", len(defines)+2, api.ErrFuel)
		refusedIs(t, defines+"'ifndef N 'A", len(defines)+10, api.ErrFuel)
		return
	}
	keptIs(t, defines+"'A", kept)
	keptIs(t, defines+"x 'A 'A", 1+2*kept)
}

func TestPr1Fuel(t *testing.T) {
	fuelIs(t, define("A", xs(4095)), 4095)
	fuelIs(t, define("A", xs(4096)), 4096)
	fuelIs(t, define("A", xs(4097)), -1)
	fuelIs(t, define("A", xs(8000)), -1)
	// A use among them counts itself, beside what it stands for.
	fuelIs(t, define("B", xs(4095))+define("A", "'B"), 4095)
	fuelIs(t, define("B", xs(4096))+define("A", "'B"), -1)
	fuelIs(t, define("C", xs(4094))+define("B", "'C")+define("A", "'B"), 4094)
	fuelIs(t, define("C", xs(4095))+define("B", "'C")+define("A", "'B"), -1)
	fuelIs(t, define("B", xs(2000))+define("A", "'B 'B "+xs(94)), 4094)
	fuelIs(t, define("B", xs(2000))+define("A", "'B 'B "+xs(95)), -1)
	fuelIs(t, define("B", xs(2000))+define("A", xs(95)+"'B 'B "), -1)
	fuelIs(t, define("B", xs(2000))+define("A", xs(94)+"'B x 'B "), -1)
	// So does one that stands for no tokens.
	fuelIs(t, define("E", "")+define("A", strings.Repeat("'E ", 4096)), 0)
	fuelIs(t, define("E", "")+define("A", strings.Repeat("'E ", 4097)), -1)
	fuelIs(t, define("E", "")+define("A", xs(4095)+"'E"), 4095)
	fuelIs(t, define("E", "")+define("A", xs(4096)+"'E"), -1)
	fuelIs(t, define("E", "")+define("A", "'E "+xs(4096)), -1)
}

// What the uses of a source come to is counted use by use.
func TestPr1FuelOfEachUse(t *testing.T) {
	keptIs(t, define("A", xs(4096))+"'A 'A 'A 'A", 16384)
	keptIs(t, define("E", "")+define("A", strings.Repeat("'E ", 4096))+strings.Repeat("'A ", 1000), 0)
}

// chain is names of which each stands for the next one, and the last one for a body.
func chain(n int, body string) string {
	var b strings.Builder
	name := "A"
	for i := range n {
		next := "a" + strconv.Itoa(i)
		b.WriteString(define(name, "'"+next))
		name = next
	}
	return b.String() + define(name, body)
}

// doubling is names of which each stands for the next one twice, and the last one for a body.
func doubling(n int, body string) string {
	var b strings.Builder
	name := "A"
	for i := range n {
		next := "a" + strconv.Itoa(i)
		b.WriteString(define(name, "'"+next+" '"+next))
		name = next
	}
	return b.String() + define(name, body)
}

func TestPr1Chains(t *testing.T) {
	fuelIs(t, chain(2000, xs(2096)), 2096)
	fuelIs(t, chain(2000, xs(2097)), -1)
	fuelIs(t, chain(2000, "'A"), -1)
	fuelIs(t, chain(2000, "'a1999"), -1)
	refusedIs(t, chain(2000, "'N")+"'A", len(chain(2000, "'N")), api.ErrDirect)
	// 2 + 4 + .. + 1024 uses, and as many tokens as the last ones stand for.
	fuelIs(t, doubling(10, ""), 0)
	fuelIs(t, doubling(10, "x"), 1024)
	fuelIs(t, doubling(10, "x x"), 2048)
	fuelIs(t, doubling(10, "x x x"), -1)
	fuelIs(t, doubling(11, ""), 0)
	fuelIs(t, doubling(11, "x"), -1)
	fuelIs(t, doubling(12, ""), -1)
	fuelIs(t, doubling(800, ""), -1)
	fuelIs(t, doubling(800, "x"), -1)
	fuelIs(t, doubling(800, "'A"), -1)
	refusedIs(t, doubling(800, "'N")+"'A", len(doubling(800, "'N")), api.ErrDirect)
}

func TestPr1NamesOfThemselves(t *testing.T) {
	for _, defines := range []string{
		define("A", "'A"), define("A", "x 'A"), define("A", "'A x"), define("A", "'A 'A"), define("A", "x 'A 'A 'A x"), define("A", "'B") + define("B", "'A"), define("B", "x 'A 'C") + define("C", "'B") + define("A", "'C 'B"),
		define("B", "'B") + define("A", "x 'B"), define("E", "") + define("A", "'E 'A 'E"),
	} {
		fuelIs(t, defines, -1)
	}
	toldIs(t, define("A", "'A")+"x", "x@13 @14")
	toldIs(t, define("A", "'A")+"'ifdef N 'A 'endif x", "x@32 @33")
	toldIs(t, define("A", "'A")+"'undef A 'define A x\n'A", "x@34 @36")
}

// At one token the error counts that the chapter names first; else the token that comes first.
func TestPr1FaultOrFuel(t *testing.T) {
	for _, fault := range []string{"'N", "'else", "'define x", "'B"} {
		for n, e := range map[int]api.Errno{0: api.ErrDirect, 4095: api.ErrDirect, 4096: api.ErrDirect, 4097: api.ErrFuel, 5000: api.ErrFuel} {
			if fault == "'B" && n == 4096 {
				e = api.ErrFuel // B itself is one too many, and what is wrong with it comes behind
			}
			s := define("B", "'N") + define("A", xs(n)+fault)
			refusedIs(t, s+"'A", len(s), e)
		}
	}
}

func TestPr1Full(t *testing.T) {
	s := define("A", xs(4096)) + define("E", "") + define("F", xs(4097)) + define("G", "x 'N") + define("H", "x x x")
	full := s + "'A 'A 'A 'A "
	keptIs(t, full, 16384)
	keptIs(t, full+"'E 'undef A 'define A x\n 'ifdef A 'else x 'A 'endif ", 16384)
	keptIs(t, full+"'ifdef N 'define N 'else \n 'endif", 16384)
	keptIs(t, s+"x 'A 'A 'A "+xs(4095), 16384)
	at := len(full)
	for last, e := range map[string]api.Errno{"x": api.ErrFull, "1": api.ErrFull, ";": api.ErrFull, "'A": api.ErrFull, "'H": api.ErrFull, "'F": api.ErrFuel, "'G": api.ErrDirect, "'N": api.ErrDirect, "'else": api.ErrDirect, "'undef": api.ErrDirect} {
		refusedIs(t, full+last, at, e)
		refusedIs(t, full+last+" 'N 'else 'define", at, e)
		if last != "'else" {
			refusedIs(t, full+"'ifdef A "+last, at+9, e)
		}
	}
	refusedIs(t, s+"'A 'A 'A "+xs(4094)+"'H", len(s)+9+2*4094, api.ErrFull)
	refusedIs(t, s+"'A 'A 'A "+xs(4094)+"'F", len(s)+9+2*4094, api.ErrFuel)
	refusedIs(t, s+"'A 'A 'A "+xs(4094)+"'G", len(s)+9+2*4094, api.ErrDirect)
	refusedIs(t, s+"x 'A 'A 'A 'A 'N", len(s)+11, api.ErrFull)
	refusedIs(t, s+"'ifdef A 'A 'A 'A 'A x", len(s)+21, api.ErrFull)
	keptIs(t, s+"'A 'A 'A "+xs(4093)+"'H", 16384)
}
