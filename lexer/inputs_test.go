package lexer_test

import "strings"

// pieces is what sources of the tests are put together from: of each kind of token, blank, comment and fault some, cut so that they come together to others.
var pieces = []string{
	"a", "_Z9", "0", "1", "12", "'", "'b", "4'hxZ", "8'hz1", "x", "`", "`define", "`defin", "define", "/", "*", "//", "/*", "*/",
	"\n", "\t", "\r", " ", "<", "=", ">", "&", "|", "!", "~", ";", "(", "$", "\x00", "é", "\"",
}

// sources is all that few pieces come to, and many that more of them do.
func sources() []string {
	all := []string{""}
	last := all
	for range 3 {
		var next []string
		for _, s := range last {
			for _, p := range pieces {
				next = append(next, s+p)
			}
		}
		all = append(all, next...)
		last = next
	}
	seed := uint32(11)
	for n := range 30000 {
		var b strings.Builder
		for range 4 + n%40 {
			seed = seed*1664525 + 1013904223
			// Faults are rare among the longer ones, since nothing behind the first one is looked at.
			list := pieces
			if seed>>24%16 != 0 {
				list = fair
			}
			b.WriteString(list[int(seed>>12)%len(list)])
		}
		all = append(all, b.String())
	}
	return all
}

// fair is pieces that are no fault by themselves.
var fair = []string{
	"a ", " b_1", " 0 ", " 12", " 4'b1x ", " 3'd9 ", "`define A ", "`define", " `undef ", " `A", " // `define c\n", " /* \n */ ", "/* // */", "/**/", "/***/",
	"\n", "\n", "\n", " ", "\t", "<=", "<", ">>", "==", "!", "~", ";", "(", ")", "*", "@",
}
