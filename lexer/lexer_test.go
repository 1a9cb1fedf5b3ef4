package lexer_test

import (
	"silkworm/api"
	"silkworm/lexer"
	"slices"
	"strings"
	"testing"
)

func lexIs(t *testing.T, s string, want []api.Token) {
	t.Helper()
	if l, d := lexer.Lex(s); !slices.Equal(l, want) || len(d) != 0 {
		t.Errorf("Lex(%.80q): %v %v, not %v", s, l, d, want)
	}
}

func refusedIs(t *testing.T, s string, at int, e api.Errno) {
	t.Helper()
	if l, d := lexer.Lex(s); len(l) != 0 || !slices.Equal(d, reason(at, e)) {
		t.Errorf("Lex(%.80q): %d tokens, %v, not %d at %d", s, len(l), d, e, at)
	}
}

func TestLe1Examples(t *testing.T) {
	lexIs(t, "a <= 4'b1x; // c", []api.Token{
		{Kind: api.TokName, Text: "a"}, {Kind: api.TokSign, Text: "<=", At: 2}, {Kind: api.TokNumber, Text: "4'b1x", At: 5},
		{Kind: api.TokSign, Text: ";", At: 10}, {Kind: api.TokEnd, At: 16},
	})
	lexIs(t, "", []api.Token{{Kind: api.TokEnd}})
	lexIs(t, " \t\r\n", []api.Token{{Kind: api.TokEnd, At: 4}})
	lexIs(t, "`a_1 `B", []api.Token{{Kind: api.TokTick, Text: "a_1"}, {Kind: api.TokTick, Text: "B", At: 5}, {Kind: api.TokEnd, At: 7}})
	lexIs(t, "module m", []api.Token{{Kind: api.TokName, Text: "module"}, {Kind: api.TokName, Text: "m", At: 7}, {Kind: api.TokEnd, At: 8}})
}

func TestLe1AsTheChapterSays(t *testing.T) {
	for _, s := range sources() {
		l, d := lexer.Lex(s)
		wantL, wantD := wantLex(s)
		if !slices.Equal(l, wantL) || !slices.Equal(d, wantD) {
			t.Fatalf("Lex(%q): %v %v, not %v %v", s, l, d, wantL, wantD)
		}
	}
}

func TestLe1EachByte(t *testing.T) {
	for b := range 256 {
		c := string([]byte{byte(b)})
		for _, s := range []string{c, "a" + c, "1" + c, c + "a", c + "1", c + c, "`" + c, "`a" + c, "4'b0" + c, "`define" + c + "\n", "/" + c, "/*" + c + "*/", "//" + c} {
			l, d := lexer.Lex(s)
			wantL, wantD := wantLex(s)
			if !slices.Equal(l, wantL) || !slices.Equal(d, wantD) {
				t.Errorf("Lex(%q): %v %v, not %v %v", s, l, d, wantL, wantD)
			}
		}
	}
}

func TestLe1Signs(t *testing.T) {
	for _, sign := range strings.Fields("( ) [ ] { } , ; : . # @ ? + - ~ ! & | ^ = < > * && || == != <= >= << >>") {
		lexIs(t, sign, []api.Token{{Kind: api.TokSign, Text: sign}, {Kind: api.TokEnd, At: len(sign)}})
	}
	for s, want := range map[string]string{
		"<<=": "<< =", "<==": "<= =", "===": "== =", "&&&": "&& &", "|||": "|| |", ">>>": ">> >", "!==": "!= =", "~&": "~ &", "=<": "= <", "=>": "= >",
		"(*)": "( * )", "**": "* *", "!!": "! !", "~^": "~ ^", "+-": "+ -", "::": ": :", "<>": "< >", "< <": "< <", "=/**/=": "= =",
	} {
		l, d := lexer.Lex(s)
		var texts []string
		for _, x := range l[:max(len(l)-1, 0)] {
			texts = append(texts, x.Text)
		}
		if got := strings.Join(texts, " "); got != want || len(d) != 0 {
			t.Errorf("Lex(%q): %q %v", s, got, d)
		}
	}
}

func TestLe1Lines(t *testing.T) {
	for _, x := range []struct {
		s     string
		lines []int
	}{
		{"a\nb\n", nil}, {"`define A\n", []int{9}}, {"`define A", nil}, {"`define A\n\n", []int{9}}, {"`define\n`define\n", []int{7, 15}},
		{"a `define b `define c\nd\n", []int{21}}, {"`define // c\n", []int{12}}, {"// `define\n", nil}, {"/* `define */\n", nil},
		{"`define /*\n*/ 2\n", []int{15}}, {"`define /*\n*/ 2", nil}, {"/*\n*/`define\n", []int{12}}, {"`defin\n`undef\n`ifdef\n", nil},
		{"define\n", nil}, {"`defines\n", nil}, {"`Define\n", nil}, {"`define\r\n", []int{8}}, {"`define // /*\n*\n", []int{13}}, {"`define /* // */\n", []int{16}},
	} {
		l, d := lexer.Lex(x.s)
		var lines []int
		for _, k := range l {
			if k.Kind == api.TokLine {
				lines = append(lines, k.At)
			}
			if k.Kind == api.TokLine && k.Text != "" {
				t.Errorf("Lex(%q): a line %q", x.s, k.Text)
			}
		}
		if !slices.Equal(lines, x.lines) || len(d) != 0 {
			t.Errorf("Lex(%q): lines %v, %v", x.s, lines, d)
		}
	}
}

func TestLe1Source(t *testing.T) {
	blanks := strings.Repeat(" ", api.MaxSource)
	lexIs(t, blanks, []api.Token{{Kind: api.TokEnd, At: 65536}})
	lexIs(t, blanks[1:]+"a", []api.Token{{Kind: api.TokName, Text: "a", At: 65535}, {Kind: api.TokEnd, At: 65536}})
	refusedIs(t, blanks+" ", 0, api.ErrLong)
	refusedIs(t, "$"+blanks, 0, api.ErrLong)
	refusedIs(t, " $"+blanks, 0, api.ErrLong)
	refusedIs(t, blanks[1:]+"$", 65535, api.ErrByte)
	refusedIs(t, strings.Repeat("$", 1<<20), 0, api.ErrLong)
}

func TestLe1Names(t *testing.T) {
	for _, letter := range []string{"a", "Z", "_", "q9"} {
		name := strings.Repeat(letter, 65)
		for _, ahead := range []string{"", " ", "b+", "/**/", "\n"} {
			at := len(ahead)
			l, d := lexer.Lex(ahead + name[:64])
			if n := len(l); n < 2 || l[n-2] != (api.Token{Kind: api.TokName, Text: name[:64], At: at}) || len(d) != 0 {
				t.Errorf("%q %v %v", ahead, l, d)
			}
			l, d = lexer.Lex(ahead + "`" + name[:64])
			if n := len(l); n < 2 || l[n-2] != (api.Token{Kind: api.TokTick, Text: name[:64], At: at}) || len(d) != 0 {
				t.Errorf("%q %v %v", ahead, l, d)
			}
			refusedIs(t, ahead+name[:65]+" $", at, api.ErrLong)
			refusedIs(t, ahead+"`"+name[:65]+" $", at, api.ErrLong)
		}
	}
	long := "4'b" + strings.Repeat("1", 65)
	lexIs(t, long, []api.Token{{Kind: api.TokNumber, Text: long}, {Kind: api.TokEnd, At: len(long)}})
}

func TestLe1Full(t *testing.T) {
	many := strings.Repeat(";", api.MaxTokens)
	if l, d := lexer.Lex(many); len(l) != 16385 || l[16384] != (api.Token{Kind: api.TokEnd, At: 16384}) || len(d) != 0 {
		t.Error(len(l), d)
	}
	if l, d := lexer.Lex(many + " // ; \n/* ; */"); len(l) != 16385 || len(d) != 0 {
		t.Error(len(l), d)
	}
	for _, last := range []string{";", "a", "1", "`a", "<=", "4'b0"} {
		refusedIs(t, many+last, 16384, api.ErrFull)
		refusedIs(t, many+" "+last+" $", 16385, api.ErrFull)
		if l, d := lexer.Lex(many[1:] + last); len(l) != 16385 || len(d) != 0 {
			t.Error(last, len(l), d)
		}
	}
	define := "`define" + many[2:]
	if l, d := lexer.Lex(define + "\n"); len(l) != 16385 || l[16383].Kind != api.TokLine || len(d) != 0 {
		t.Error(len(l), d)
	}
	refusedIs(t, define+";\n", len(define)+1, api.ErrFull)
	refusedIs(t, define+"\n;", len(define)+1, api.ErrFull)
	if l, d := lexer.Lex(define + ";"); len(l) != 16385 || len(d) != 0 {
		t.Error(len(l), d)
	}
}

// At one place the error counts that the chapter names first.
func TestLe1FullBehindTheOthers(t *testing.T) {
	many := strings.Repeat(";", api.MaxTokens)
	for last, e := range map[string]api.Errno{
		"$": api.ErrByte, "`": api.ErrByte, "/*": api.ErrByte, "/": api.ErrByte, "1a": api.ErrNumber, "4294967296": api.ErrNumber,
		strings.Repeat("a", 65): api.ErrLong, "`" + strings.Repeat("a", 65): api.ErrLong,
	} {
		refusedIs(t, many+last, 16384, e)
		refusedIs(t, many+"a "+last, 16384, api.ErrFull)
		refusedIs(t, many[1:]+last+" ; ;", 16383, e)
	}
}

func TestLe1Refused(t *testing.T) {
	long := strings.Repeat("n", 65)
	for _, x := range []struct {
		s  string
		at int
		e  api.Errno
	}{
		{"$", 0, api.ErrByte}, {"a $ %", 2, api.ErrByte}, {"'", 0, api.ErrByte}, {"a'b", 1, api.ErrByte}, {"\x00", 0, api.ErrByte}, {"\x80", 0, api.ErrByte},
		{" é", 1, api.ErrByte}, {"aé", 1, api.ErrByte}, {"\v", 0, api.ErrByte}, {"\f", 0, api.ErrByte}, {"\\", 0, api.ErrByte}, {"%", 0, api.ErrByte}, {"\"", 0, api.ErrByte},
		{"`", 0, api.ErrByte}, {"a `", 2, api.ErrByte}, {"` a", 0, api.ErrByte}, {"`1", 0, api.ErrByte}, {"``a", 0, api.ErrByte}, {"`\na", 0, api.ErrByte}, {"`/**/a", 0, api.ErrByte},
		{"/", 0, api.ErrByte}, {"a / b", 2, api.ErrByte}, {"*/", 1, api.ErrByte}, {"/ /", 0, api.ErrByte},
		{"/*", 0, api.ErrByte}, {"/*/", 0, api.ErrByte}, {"a /* * / $", 2, api.ErrByte}, {"/**/ /*", 5, api.ErrByte}, {"/* /* */ */", 10, api.ErrByte}, {"// */\n/*", 6, api.ErrByte},
		{"1a", 0, api.ErrNumber}, {"a+ 4'", 3, api.ErrNumber}, {"00", 0, api.ErrNumber}, {"1_0", 0, api.ErrNumber}, {"4'b1'b1", 0, api.ErrNumber}, {"4' b1", 0, api.ErrNumber},
		{"1a $", 0, api.ErrNumber}, {"$ 1a", 0, api.ErrByte}, {long + " 1a $", 0, api.ErrLong}, {"1a " + long, 0, api.ErrNumber}, {"1a /*", 0, api.ErrNumber},
		{"a\n" + long + "\n$", 2, api.ErrLong}, {"`" + long + "$", 0, api.ErrLong}, {"/*" + long + "*/ 1a", 70, api.ErrNumber},
	} {
		refusedIs(t, x.s, x.at, x.e)
	}
}

func numberIs(t *testing.T, s, v string, plain bool) {
	t.Helper()
	if w, p, e := lexer.Number(s); w != v || p != plain || e != api.OK {
		t.Errorf("Number(%.80q): %q %v %d, not %q", s, w, p, e, v)
	}
}

func TestLe1Number(t *testing.T) {
	zeros, ones := strings.Repeat("0", 300), strings.Repeat("1", 300)
	for s, v := range map[string]string{
		"0": zeros[:32], "1": zeros[:31] + "1", "10": zeros[:28] + "1010", "4294967295": ones[:32], "2147483648": "1" + zeros[:31], "4294967294": ones[:31] + "0",
	} {
		numberIs(t, s, v, true)
	}
	for s, v := range map[string]string{
		"4'bx": "xxxx", "4'bz": "zzzz", "2'h5": "01", "8'hz1": "zzzz0001", "3'd9": "001", "1'b0": "0", "1'b1": "1", "1'bz": "z", "1'h2": "0", "1'hx": "x", "1'd3": "1",
		"4'b1": "0001", "4'b0": "0000", "4'bx1": "xxx1", "4'b0x": "000x", "4'b1x": "001x", "4'bz0x1": "z0x1", "4'bxz10z1": "10z1", "2'bx01": "01",
		"6'hx": "xxxxxx", "6'hzx": "zzxxxx", "6'hff": "111111", "6'h3": "000011", "9'hzF": "zzzzz1111", "9'h8x": "01000xxxx", "12'haBc": "101010111100", "16'h0xz": "00000000xxxxzzzz", "5'hx1": "x0001",
		"8'h12": "00010010", "8'hDe": "11011110", "3'h8": "000",
		"32'd2147483647": "0" + ones[:31], "31'd2147483647": ones[:31], "1'd2147483647": "1", "4'd0000000000000000000003": "0011", "4'd16": "0000", "8'd0": zeros[:8], "32'd00002147483647": "0" + ones[:31],
		"256'b1": zeros[:255] + "1", "256'hx": strings.Repeat("x", 256), "256'bz1": strings.Repeat("z", 255) + "1", "256'd1": zeros[:255] + "1", "256'd2147483647": zeros[:225] + ones[:31],
		"256'b" + ones[:256]: ones[:256], "256'bx" + ones[:256]: ones[:256], "256'b0" + ones[:255]: "0" + ones[:255], "256'hz" + strings.Repeat("F", 64): ones[:256], "256'hz" + strings.Repeat("f", 63): "zzzz" + ones[:252],
		"1'b" + zeros + "1": "1", "1'b" + strings.Repeat("x", 5000) + "0": "0", "3'h" + strings.Repeat("z", 5000) + "5": "101",
	} {
		numberIs(t, s, v, false)
	}
}

func noNumbers() []string {
	return []string{
		"", " ", "a", "x", "-1", "+1", "1 ", " 1", "00", "01", "007", "1_0", "_1", "1a", "1.0", "1'", "'", "'b1", "4'", "4'b", "4'h", "4'd", "4b1", "4''b1", "4'b1'", "4'b 1", "4 'b1", "4'b1 ",
		"4294967296", "9999999999", "10000000000", "18446744073709551616", "18446744073709551617", "00000000001", strings.Repeat("9", 1000), strings.Repeat("0", 1000),
		"0'b1", "257'b1", "00'b1", "01'b1", "04'b1", "1000'b1", "4294967297'b1", "18446744073709551617'b1", "x'b1", "-4'b1", "4'b2", "4'b12", "4'bX", "4'bZ", "4'b1_0", "4'b?", "4'ba",
		"4'B1", "4'H1", "4'D1", "4'o7", "4'1", "4'x", "4'hg", "4'hG", "4'hX", "4'hZ", "4'h1_", "4'h ", "4'h\x00", "4'hé", "4'd2147483648", "4'd002147483648", "4'd4294967295", "4'd9223372036854775808", "4'd18446744073709551616", "4'd18446744073709551617",
		"4'd" + strings.Repeat("9", 1000), "4'dx", "4'dz", "4'd1x", "4'da", "4'd-1", "4'd+1", "4'd1_0", "4'd1 ", "256'b" + strings.Repeat("1", 300) + "2", "1'b2" + strings.Repeat("1", 300), "1'h" + strings.Repeat("f", 300) + "g", "1'hg" + strings.Repeat("f", 300),
	}
}

func TestLe1NumberRefused(t *testing.T) {
	for _, s := range noNumbers() {
		if v, plain, e := lexer.Number(s); v != "" || plain || e != api.ErrNumber {
			t.Errorf("Number(%.80q): %q %v %d", s, v, plain, e)
		}
	}
}

func TestLe1NumberAsTheChapterSays(t *testing.T) {
	is := func(s string) {
		v, plain, e := lexer.Number(s)
		wantV, wantPlain, wantE := wantNumber(s)
		if v != wantV || plain != wantPlain || e != wantE {
			t.Errorf("Number(%.80q): %q %v %d, not %q %v %d", s, v, plain, e, wantV, wantPlain, wantE)
		}
	}
	last := []string{""}
	for range 5 {
		var next []string
		for _, s := range last {
			for _, c := range strings.Split("0149'bhdxzaFX_", "") {
				next = append(next, s+c)
				is(s + c)
			}
		}
		last = next
	}
	for wide := range 260 {
		for _, tail := range []string{"b1", "bx", "bz01", "hf", "hx3", "hzaB", "h0", "d1", "d2147483647", "d77", "b" + strings.Repeat("01xz", 80), "h" + strings.Repeat("z0F", 30)} {
			is(decimal("0").SetInt64(int64(wide)).String() + "'" + tail)
		}
	}
	for b := range 256 {
		c := string([]byte{byte(b)})
		for _, s := range []string{c, "1" + c, "4'" + c + "1", "4'b" + c, "4'h" + c, "4'd" + c, "4'b" + c + "1", "4'h" + c + "1", "4'd" + c + "1", "4'b1" + c, "4'h1" + c, "4'd1" + c, "4" + c + "b1"} {
			is(s)
		}
	}
}
