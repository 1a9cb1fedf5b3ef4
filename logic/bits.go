package logic

import (
	"silkworm/api"
	"strings"
)

func width(wide int) bool {
	return 1 <= wide && wide <= api.MaxWide
}

func vectors(list ...string) bool {
	for _, v := range list {
		if !vector(v) {
			return false
		}
	}
	return true
}

func vector(v string) bool {
	if !width(len(v)) {
		return false
	}
	for i := range len(v) {
		if v[i] != '0' && v[i] != '1' && v[i] != 'x' && v[i] != 'z' {
			return false
		}
	}
	return true
}

func known(v string) bool {
	for i := range len(v) {
		if v[i] != '0' && v[i] != '1' {
			return false
		}
	}
	return true
}

// place is where a bit stands in an operator's table; of a known bit it is its number, too.
func place(bit byte) int {
	switch bit {
	case '0':
		return 0
	case '1':
		return 1
	case 'x':
		return 2
	}
	return 3
}

// table is that of & | ^ over two bits.
func table(op int) [4]string {
	switch op {
	case api.OpAnd:
		return [4]string{"0000", "01xx", "0xxx", "0xxx"}
	case api.OpOr:
		return [4]string{"01xx", "1111", "x1xx", "x1xx"}
	}
	return [4]string{"01xx", "10xx", "xxxx", "xxxx"}
}

// agreed is the table by which a choice that is not known still tells what both ways would.
func agreed() [4]string {
	return [4]string{"0xxx", "x1xx", "xxxx", "xxxx"}
}

// eachBit needs two vectors of one width.
func eachBit(of [4]string, a, b string) string {
	out := make([]byte, len(a))
	for i := range len(a) {
		out[i] = of[place(a[i])][place(b[i])]
	}
	return string(out)
}

func allBits(of [4]string, first byte, v string) byte {
	for i := range len(v) {
		first = of[place(first)][place(v[i])]
	}
	return first
}

func truth(v string) byte {
	return allBits(table(api.OpOr), '0', v)
}

func same(bit string, wide int) string {
	return strings.Repeat(bit, wide)
}

func part(v string, hi, lo int) string {
	return v[len(v)-1-hi : len(v)-lo]
}

func fit(v string, wide int) string {
	if wide <= len(v) {
		return part(v, wide-1, 0)
	}
	return same("0", wide-len(v)) + v
}

func turned(v string) string {
	return eachBit(table(api.OpXor), v, same("1", len(v)))
}

// upTo is the number of a known vector, or most, if it is not below that: a vector may be wider than any number of the language.
func upTo(v string, most int) int {
	n := 0
	for i := range len(v) {
		n = 2*n + place(v[i])
		if n >= most {
			return most
		}
	}
	return n
}

// sum needs two known vectors of one width; what is carried beyond it is lost.
func sum(a, b string, carry int) string {
	out := make([]byte, len(a))
	for k := range len(a) {
		i := len(a) - 1 - k
		n := carry + place(a[i]) + place(b[i])
		out[i] = '0' + byte(n&1)
		carry = n >> 1
	}
	return string(out)
}
