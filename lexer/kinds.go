package lexer

import "strings"

// kinds is a set of what a byte may do in a source.
type kinds int

const (
	beginsName kinds = 1 << iota
	inName
	inNumber
	isBlank
	isLine
	beginsComment
	beginsTick
	beginsSign
)

const signs = "()[]{},;:.#@?+-~!&|^=<>*"

// kindsOf falls through, since what begins a name also stands in one, and what stands in a name also stands in a number; so a digit is what stands in a name and begins none.
func kindsOf(c byte) (k kinds) {
	switch {
	case isLetter(c):
		k |= beginsName
		fallthrough
	case isDigit(c):
		k |= inName
		fallthrough
	case c == '\'':
		k |= inNumber
	case c == '\n':
		k |= isLine
		fallthrough
	case c == '\t', c == '\r', c == ' ':
		k |= isBlank
	case c == '/':
		k |= beginsComment
	case c == '`':
		k |= beginsTick
	case strings.IndexByte(signs, c) >= 0:
		k |= beginsSign
	}
	return k
}

func isLetter(c byte) bool {
	return 'a' <= c && c <= 'z' || 'A' <= c && c <= 'Z' || c == '_'
}

func isDigit(c byte) bool {
	return '0' <= c && c <= '9'
}

// run is how many bytes of that kind a text begins with.
func run(s string, of kinds) int {
	for i := range len(s) {
		if kindsOf(s[i])&of == 0 {
			return i
		}
	}
	return len(s)
}

// signWide is how many bytes the sign has that a text begins with.
func signWide(s string) int {
	if len(s) < 2 {
		return 1
	}
	switch s[:2] {
	case "&&", "||", "==", "!=", "<=", ">=", "<<", ">>":
		return 2
	}
	return 1
}

// commentWide is how many bytes the comment has that a text begins with, or 0, if it begins with none that ends.
func commentWide(s string) int {
	if strings.HasPrefix(s, "//") {
		if end := strings.IndexByte(s, '\n'); end >= 0 {
			return end
		}
		return len(s)
	}
	if strings.HasPrefix(s, "/*") {
		if end := strings.Index(s[2:], "*/"); end >= 0 {
			return 2 + end + 2
		}
	}
	return 0
}
