package lexer_test

import (
	"math/big"
	"regexp"
	"silkworm/api"
	"slices"
	"strings"
)

// What the chapter says of tokens and numbers is said here once more, by patterns and whole numbers of any size.

var (
	patBlank  = regexp.MustCompile(`^[\t\n\r ]+`)
	patSlant  = regexp.MustCompile(`^//[^\n]*`)
	patStar   = regexp.MustCompile(`^/\*(?s:.*?)\*/`)
	patName   = regexp.MustCompile(`^[A-Za-z_][A-Za-z0-9_]*`)
	patNumber = regexp.MustCompile(`^[0-9][A-Za-z0-9_']*`)
	patSign   = regexp.MustCompile(`^(&&|\|\||==|!=|<=|>=|<<|>>|[()\[\]{},;:.#@?+\-~!&|^=<>*])`)
	patTick   = regexp.MustCompile("^`[A-Za-z_][A-Za-z0-9_]*")
	patPlain  = regexp.MustCompile(`^(0|[1-9][0-9]{0,9})$`)
	patSized  = regexp.MustCompile(`^([1-9][0-9]{0,2})'(b[01xz]+|h[0-9a-fA-Fxz]+|d[0-9]+)$`)
)

func reason(at int, e api.Errno) []api.Diag {
	return []api.Diag{{At: at, Code: e}}
}

func wantLex(s string) ([]api.Token, []api.Diag) {
	if len(s) > 1<<16 {
		return nil, reason(0, api.ErrLong)
	}
	list, lines, d := wantPieces(s)
	list = withLines(list, lines)
	if len(list) > 1<<14 && (len(d) == 0 || list[1<<14].At < d[0].At) {
		return nil, reason(list[1<<14].At, api.ErrFull)
	}
	if len(d) > 0 {
		return nil, d
	}
	return append(list, api.Token{Kind: api.TokEnd, At: len(s)}), nil
}

// wantPieces is the tokens but lines up to the first fault, and the places of the newlines outside of comments.
func wantPieces(s string) (list []api.Token, lines []int, d []api.Diag) {
	for at := 0; at < len(s); {
		rest := s[at:]
		if m := patBlank.FindString(rest); m != "" {
			for i := range m {
				if m[i] == '\n' {
					lines = append(lines, at+i)
				}
			}
			at += len(m)
			continue
		}
		if m := patSlant.FindString(rest) + patStar.FindString(rest); m != "" {
			at += len(m)
			continue
		}
		token, wide, e := wantToken(rest)
		if e != api.OK {
			return list, lines, reason(at, e)
		}
		token.At = at
		list = append(list, token)
		at += wide
	}
	return list, lines, nil
}

func wantToken(rest string) (api.Token, int, api.Errno) {
	if m := patName.FindString(rest); m != "" {
		return limited(api.Token{Kind: api.TokName, Text: m}, len(m))
	}
	if m := patTick.FindString(rest); m != "" {
		return limited(api.Token{Kind: api.TokTick, Text: m[1:]}, len(m))
	}
	if m := patNumber.FindString(rest); m != "" {
		_, _, e := wantNumber(m)
		return api.Token{Kind: api.TokNumber, Text: m}, len(m), e
	}
	if m := patSign.FindString(rest); m != "" {
		return api.Token{Kind: api.TokSign, Text: m}, len(m), api.OK
	}
	return api.Token{}, 0, api.ErrByte
}

func limited(t api.Token, wide int) (api.Token, int, api.Errno) {
	if len(t.Text) > 64 {
		return api.Token{}, 0, api.ErrLong
	}
	return t, wide, api.OK
}

// withLines is the tokens with a line for each newline that has a define between itself and the newline ahead of it.
func withLines(list []api.Token, lines []int) []api.Token {
	from := -1
	var all []api.Token
	for _, to := range lines {
		if slices.ContainsFunc(list, func(t api.Token) bool {
			return t.Kind == api.TokTick && t.Text == "define" && from < t.At && t.At < to
		}) {
			all = append(all, api.Token{Kind: api.TokLine, At: to})
		}
		from = to
	}
	all = append(all, list...)
	slices.SortStableFunc(all, func(a, b api.Token) int { return a.At - b.At })
	return all
}

func wantNumber(s string) (string, bool, api.Errno) {
	if patPlain.MatchString(s) {
		n := decimal(s)
		if n.BitLen() > 32 {
			return "", false, api.ErrNumber
		}
		return lastBits(n.Text(2), "0", 32), true, api.OK
	}
	m := patSized.FindStringSubmatch(s)
	if m == nil {
		return "", false, api.ErrNumber
	}
	wide, digits := int(decimal(m[1]).Int64()), m[2][1:]
	if wide > 256 {
		return "", false, api.ErrNumber
	}
	switch m[2][0] {
	case 'd':
		n := decimal(digits)
		if n.BitLen() > 31 {
			return "", false, api.ErrNumber
		}
		return lastBits(n.Text(2), "0", wide), false, api.OK
	case 'h':
		return lastBits(fourEach(digits), digits[:1], wide), false, api.OK
	}
	return lastBits(digits, digits[:1], wide), false, api.OK
}

func decimal(s string) *big.Int {
	n, _ := new(big.Int).SetString(s, 10)
	return n
}

func fourEach(digits string) string {
	out := ""
	for _, c := range strings.Split(digits, "") {
		if c == "x" || c == "z" {
			out += strings.Repeat(c, 4)
			continue
		}
		n, _ := new(big.Int).SetString("1"+c, 16)
		out += n.Text(2)[1:]
	}
	return out
}

// lastBits is the lowest bits of a text, ahead of which noughts stand, or its highest digit, if that is x or z.
func lastBits(bits, highest string, wide int) string {
	if highest != "x" && highest != "z" {
		highest = "0"
	}
	bits = strings.Repeat(highest, wide) + bits
	return bits[len(bits)-wide:]
}
