// Package logic is layer 1: vectors of four values, and what may be done with them.
package logic

import "silkworm/api"

// Check tells whether a text is a vector.
func Check(v string) api.Errno {
	if !vectors(v) {
		return api.ErrBits
	}
	return api.OK
}

// Fit is a vector, widened by noughts or cut to so many bits.
func Fit(v string, wide int) (string, api.Errno) {
	if !width(wide) {
		return "", api.ErrArg
	}
	if !vectors(v) {
		return "", api.ErrBits
	}
	return fit(v, wide), api.OK
}

// Unary is ~ ! - & | ^ of a vector.
func Unary(op int, a string) (string, api.Errno) {
	if op < api.OpNot || op > api.OpXorR {
		return "", api.ErrArg
	}
	if !vectors(a) {
		return "", api.ErrBits
	}
	return unary(op, a), api.OK
}

// Binary is + - << >> < <= > >= == != & ^ | && || of two vectors.
func Binary(op int, a, b string) (string, api.Errno) {
	if op < api.OpAdd || op > api.OpLor {
		return "", api.ErrArg
	}
	if !vectors(a, b) {
		return "", api.ErrBits
	}
	return binary(op, a, b), api.OK
}

// Truth is whether a vector is true: 1, 0 or x.
func Truth(v string) (byte, api.Errno) {
	if !vectors(v) {
		return 0, api.ErrBits
	}
	return truth(v), api.OK
}

// Cond is ?: of vectors of one width.
func Cond(c, a, b string) (string, api.Errno) {
	if !vectors(c, a, b) {
		return "", api.ErrBits
	}
	if len(a) != len(b) {
		return "", api.ErrArg
	}
	switch truth(c) {
	case '1':
		return a, api.OK
	case '0':
		return b, api.OK
	}
	return eachBit(agreed(), a, b), api.OK
}

// Part is the bits of a vector from one down to another one.
func Part(v string, hi, lo int) (string, api.Errno) {
	if !vectors(v) {
		return "", api.ErrBits
	}
	if lo < 0 || hi < lo || hi >= len(v) {
		return "", api.ErrArg
	}
	return part(v, hi, lo), api.OK
}

// Bit is the bit of a vector whose number another one tells.
func Bit(v, at string) (string, api.Errno) {
	if !vectors(v, at) {
		return "", api.ErrBits
	}
	if !known(at) {
		return "x", api.OK
	}
	n := upTo(at, len(v))
	if n == len(v) {
		return "x", api.OK
	}
	return part(v, n, n), api.OK
}

// Number is the number of a vector without x and z, below 2^31.
func Number(v string) (int, api.Errno) {
	if !vectors(v) {
		return 0, api.ErrBits
	}
	if !known(v) {
		return 0, api.ErrConst
	}
	n := upTo(v, api.MaxConst+1)
	if n > api.MaxConst {
		return 0, api.ErrOver
	}
	return n, api.OK
}

// Of is a number as a vector.
func Of(n, wide int) (string, api.Errno) {
	if n < 0 || !width(wide) {
		return "", api.ErrArg
	}
	out := make([]byte, wide)
	for i := range wide {
		out[wide-1-i] = '0' + byte(n&1)
		n >>= 1
	}
	return string(out), api.OK
}

// Rise tells whether a clock's last bit rises.
func Rise(old, v string) bool {
	if !vectors(old, v) {
		return false
	}
	was, is := old[len(old)-1], v[len(v)-1]
	switch was {
	case '0':
		return is != '0'
	case '1':
		return false
	}
	return is == '1'
}
