package printer_test

import (
	"fmt"
	"reflect"
	"silkworm/api"
	"silkworm/lexer"
	"silkworm/syntax"
	"slices"
	"strconv"
	"strings"
)

// The chapter's words once more: brackets are put everywhere, then taken away wherever it is read the same without; the bytes between tokens are found by looking at the whole list of them.

// told is a tree, places aside, as a text: two trees are the same if it is. nil and the empty list are the same.
func told(tree any) string {
	var b strings.Builder
	tell(&b, reflect.ValueOf(tree))
	return b.String()
}

func tell(b *strings.Builder, v reflect.Value) {
	switch v.Kind() {
	case reflect.Slice:
		b.WriteString("[")
		for i := range v.Len() {
			tell(b, v.Index(i))
		}
		b.WriteString("]")
	case reflect.Struct:
		b.WriteString("{")
		for i := range v.NumField() {
			if v.Type().Field(i).Name != "At" {
				tell(b, v.Field(i))
			}
		}
		b.WriteString("}")
	case reflect.String:
		b.WriteString(strconv.Quote(v.String()))
	default:
		fmt.Fprint(b, v.Interface(), " ")
	}
}

// toldOf is the tree of a text, if there is one.
func toldOf(text string) string {
	l, why := lexer.Lex(text)
	if len(why) > 0 {
		return "no tokens"
	}
	m, why := syntax.Parse(l)
	if len(why) > 0 {
		return "no tree"
	}
	return told(m)
}

func wantPrint(l []api.Module) (string, api.Errno) {
	var words []string
	for _, m := range l {
		words = append(words, moduleWords(m)...)
	}
	s := laidOut(words)
	if len(s) > 65536 || toldOf(s) != told(l) {
		return "", api.ErrArg
	}
	return s, api.OK
}

func wantExpr(x api.Expr) (string, api.Errno) {
	s := laidOut(exprWords(x))
	m := []api.Module{{Name: "m", Items: []api.Item{{Kind: api.ItAssign, Name: "a", Value: x}}}}
	if len(s) > 65536-64 || toldOf("module m ( ) ; assign a = "+s+"; endmodule") != told(m) {
		return "", api.ErrArg
	}
	return s, api.OK
}

// laidOut is words with the bytes behind them.
func laidOut(words []string) string {
	var b strings.Builder
	open := 0
	is := func(i int, word string) bool { return 0 <= i && i < len(words) && words[i] == word }
	for i, w := range words {
		open += strings.Count(w, "(") - strings.Count(w, ")")
		b.WriteString(w)
		switch {
		case w == ";" && open == 0, w == "begin" && !is(i+1, ":"), is(i-2, "begin") && is(i-1, ":"), w == "end", w == "endcase", w == "endmodule":
			b.WriteString("\n")
		default:
			b.WriteString(" ")
		}
	}
	return b.String()
}

// words is texts cut at their blanks, and lists of words, one behind the other.
func words(list ...any) (all []string) {
	for _, x := range list {
		switch x := x.(type) {
		case string:
			all = append(all, strings.Fields(x)...)
		case []string:
			all = append(all, x...)
		}
	}
	return all
}

// listed is the words of each, with commas between; nothing at all if there are none.
func listed[T any](before string, list []T, each func(T) []string, after string) (all []string) {
	for i, x := range list {
		if i > 0 {
			all = append(all, ",")
		}
		all = append(all, each(x)...)
	}
	if len(list) == 0 {
		return nil
	}
	return words(before, all, after)
}

func moduleWords(m api.Module) []string {
	param := func(b api.Bind) []string { return words("parameter", b.Name, "=", exprWords(b.Value)) }
	return words("module", m.Name, listed("# (", m.Params, param, ")"), "(", listed("", m.Ports, portWords, ""), ") ;", itemsWords(m.Items), "endmodule")
}

func portWords(p api.Port) []string {
	way := map[bool]string{false: "input", true: "output"}[p.Out]
	return words(way, map[bool]string{true: "reg"}[p.Reg], rangeWords(p.Ranged, p.Hi, p.Lo), p.Name)
}

func rangeWords(ranged bool, hi, lo api.Expr) []string {
	if !ranged {
		return nil
	}
	return words("[", exprWords(hi), ":", exprWords(lo), "]")
}

func bindWords(b api.Bind) []string {
	return words(".", b.Name, "(", exprWords(b.Value), ")")
}

func itemsWords(l []api.Item) (all []string) {
	for _, x := range l {
		all = append(all, itemWords(x)...)
	}
	return all
}

func itemWords(x api.Item) []string {
	single := func(s string) []string { return words(s) }
	switch x.Kind {
	case api.ItWire, api.ItReg:
		return words(map[int]string{api.ItWire: "wire", api.ItReg: "reg"}[x.Kind], rangeWords(x.Ranged, x.Hi, x.Lo), listed("", x.Names, single, ""), ";")
	case api.ItLocal:
		return words("localparam", x.Name, "=", exprWords(x.Value), ";")
	case api.ItAssign:
		if x.Timed {
			return words("assign #", delayWords(x.Delay), x.Name, "=", exprWords(x.Value), ";")
		}
		return words("assign", x.Name, "=", exprWords(x.Value), ";")
	case api.ItComb:
		return words("always @ ( * )", bodyWords(x.Body))
	case api.ItClock:
		return words("always @ ( posedge", x.Name, ")", bodyWords(x.Body))
	case api.ItInst:
		return words(x.Module, listed("# (", x.Params, bindWords, ")"), x.Name, "(", listed("", x.Ports, bindWords, ""), ") ;")
	case api.ItFor:
		return words("for (", x.Var, "=", exprWords(x.Value), ";", exprWords(x.While), ";", x.Var, "=", exprWords(x.Next), ") begin :", x.Name, itemsWords(x.Items), "end")
	}
	return words("\x00")
}

func bodyWords(l []api.Stmt) []string {
	all := words("begin")
	for _, x := range l {
		all = append(all, stmtWords(x)...)
	}
	return words(all, "end")
}

func stmtWords(x api.Stmt) []string {
	switch x.Kind {
	case api.StSet:
		return words(x.Target, "=", exprWords(x.Value), ";")
	case api.StDefer:
		return words(x.Target, "<=", exprWords(x.Value), ";")
	case api.StIf:
		all := words("if (", exprWords(x.Value), ")", bodyWords(x.Body))
		if len(x.Else) > 0 {
			all = words(all, "else", bodyWords(x.Else))
		}
		return all
	case api.StCase:
		all := words("case (", exprWords(x.Value), ")")
		for _, a := range x.Arms {
			label := words("default")
			if !a.Default {
				label = exprWords(a.Label)
			}
			all = words(all, label, ":", bodyWords(a.Body))
		}
		return words(all, "endcase")
	}
	return words("\x00")
}

func exprWords(x api.Expr) []string {
	return fewest(wrapped(x), "module m(); assign y = ", "; endmodule")
}

func delayWords(x api.Expr) []string {
	return fewest(wrapped(x), "module m(); assign # ", " y = z; endmodule")
}

// fewest is words without the brackets without which they are read the same.
func fewest(l []string, before, after string) []string {
	read := func(l []string) string { return toldOf(before + strings.Join(l, " ") + after) }
	want := read(l)
	for i := 0; i < len(l); i++ {
		for i < len(l) && l[i] == "(" {
			end := i + closing(l[i:])
			less := slices.Concat(l[:i], l[i+1:end], l[min(end+1, len(l)):])
			if read(less) != want {
				break
			}
			l = less
		}
	}
	return l
}

// closing is where the bracket that a list begins with ends.
func closing(l []string) int {
	open := 0
	for i, w := range l {
		open += strings.Count(w, "(") - strings.Count(w, ")")
		if open == 0 {
			return i
		}
	}
	return len(l)
}

// wrapped is an expression's words, it and each of its parts in brackets.
func wrapped(x api.Expr) []string {
	parts := make([][]string, len(x.Kids))
	for i, k := range x.Kids {
		parts[i] = wrapped(k)
	}
	self := func(l []string) []string { return l }
	switch {
	case x.Op == api.OpNum:
		return words(numberWord(x), listed("", parts, self, ""))
	case x.Op == api.OpName:
		return words(x.Name, listed("", parts, self, ""))
	case x.Op == api.OpBit && len(parts) == 1:
		return words("(", x.Name, "[", parts[0], "] )")
	case x.Op == api.OpPart && len(parts) == 2:
		return words("(", x.Name, "[", parts[0], ":", parts[1], "] )")
	case x.Op == api.OpCat:
		return words("( {", listed("", parts, self, ""), "} )")
	case x.Op == api.OpCond && len(parts) == 3:
		return words("(", parts[0], "?", parts[1], ":", parts[2], ")")
	case api.OpNot <= x.Op && x.Op <= api.OpXorR && len(parts) == 1:
		return words("(", unarySigns()[x.Op-api.OpNot], parts[0], ")")
	case api.OpAdd <= x.Op && x.Op <= api.OpLor && len(parts) == 2:
		return words("(", parts[0], binarySigns()[x.Op-api.OpAdd], parts[1], ")")
	}
	return words("\x00")
}

func unarySigns() []string {
	return strings.Fields("~ ! - & | ^")
}

func binarySigns() []string {
	return strings.Fields("+ - << >> < <= > >= == != & ^ | && ||")
}

func numberWord(x api.Expr) string {
	if !x.Plain {
		return fmt.Sprintf("%d'b%s", len(x.Value), x.Value)
	}
	n := uint64(0)
	for _, bit := range x.Value {
		if bit != '0' && bit != '1' {
			return "\x00"
		}
		n = n<<1 | uint64(bit-'0')
	}
	return fmt.Sprint(n)
}
