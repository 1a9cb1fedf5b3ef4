package lexer

import (
	"silkworm/api"
	"silkworm/logic"
	"strings"
)

// wholeNumber is the number of decimal digits, noughts ahead allowed; false, if they are none, or come to more than most.
func wholeNumber(s string, most int) (int, bool) {
	n := 0
	for i := range len(s) {
		if !isDigit(s[i]) {
			return 0, false
		}
		n = 10*n + int(s[i]-'0')
		if n > most {
			return 0, false
		}
	}
	return n, s != ""
}

// based is the vector of a base's digits.
func based(base byte, digits string, wide int) (string, bool) {
	switch base {
	case 'b':
		return grouped(digits, 1, wide)
	case 'h':
		return grouped(digits, 4, wide)
	case 'd':
		n, ok := wholeNumber(digits, api.MaxConst)
		if !ok {
			return "", false
		}
		v, e := logic.Of(n, wide)
		return v, e == api.OK
	}
	return "", false
}

// grouped is the vector of digits that stand for so many bits each. It builds bits of the last digits alone, since no vector has room for more of them than its width.
func grouped(digits string, each, wide int) (string, bool) {
	var bits strings.Builder
	for i := range len(digits) {
		b, ok := digitBits(digits[i], each)
		if !ok {
			return "", false
		}
		if len(digits)-i <= wide {
			bits.WriteString(b)
		}
	}
	return stretched(bits.String(), wide)
}

// stretched is bits cut to a width, or with noughts ahead, or with what the highest bit is, if that is x or z.
func stretched(bits string, wide int) (string, bool) {
	if bits == "" {
		return "", false
	}
	if len(bits) >= wide {
		return bits[len(bits)-wide:], true
	}
	if bits[0] == 'x' || bits[0] == 'z' {
		return strings.Repeat(bits[:1], wide-len(bits)) + bits, true
	}
	v, e := logic.Fit(bits, wide)
	return v, e == api.OK
}

// digitBits is the bits that a digit stands for; false, if it is none of a base of so many bits a digit.
func digitBits(c byte, each int) (string, bool) {
	n := 0
	switch {
	case c == 'x' || c == 'z':
		return strings.Repeat(string(c), each), true
	case isDigit(c):
		n = int(c - '0')
	case 'a' <= c && c <= 'f':
		n = int(c-'a') + 10
	case 'A' <= c && c <= 'F':
		n = int(c-'A') + 10
	default:
		return "", false
	}
	if n >= 1<<each {
		return "", false
	}
	v, e := logic.Of(n, each)
	return v, e == api.OK
}
