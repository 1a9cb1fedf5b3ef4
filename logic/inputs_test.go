package logic_test

import (
	"silkworm/api"
	"strings"
)

var (
	unaryOps  = []int{api.OpNot, api.OpNeg, api.OpAllR, api.OpAnyR, api.OpXorR, api.OpLog}
	binaryOps = []int{
		api.OpAdd, api.OpSub, api.OpShl, api.OpShr, api.OpLt, api.OpLe, api.OpGt, api.OpGe,
		api.OpEq, api.OpNe, api.OpAnd, api.OpXor, api.OpOr, api.OpLand, api.OpLor,
	}
	noUnary = []int{
		-1 << 63, -1, 0, api.OpNum, api.OpName, api.OpBit, api.OpPart, api.OpCat, api.OpCond,
		api.OpAdd, api.OpSub, api.OpAnd, api.OpXor, api.OpOr, api.OpLand, api.OpLor, api.OpLor + 1, 1<<63 - 1,
	}
	noBinary = []int{
		-1 << 63, -1, 0, api.OpNum, api.OpName, api.OpBit, api.OpPart, api.OpCat, api.OpCond,
		api.OpNot, api.OpLog, api.OpNeg, api.OpAllR, api.OpAnyR, api.OpXorR, api.OpLor + 1, 1<<63 - 1,
	}
	noVectors = []string{
		"", "2", "X", "Z", " ", "01 ", " 01", "0\x00", "01\n", "b01", "-1", "0_1", "xzy", "1\xff", "é",
		strings.Repeat("0", 257), strings.Repeat("x", 1000), strings.Repeat("1", 255) + "2", "?" + strings.Repeat("1", 255),
	}
	farInts = []int{-1 << 63, -1, 0, 1, 2, 255, 256, 257, 1<<31 - 1, 1 << 31, 1<<63 - 1}
)

// upToWide is all vectors of the widths 1 to wide.
func upToWide(wide int) []string {
	var all []string
	last := []string{""}
	for range wide {
		var next []string
		for _, v := range last {
			for _, bit := range []string{"0", "1", "x", "z"} {
				next = append(next, v+bit)
			}
		}
		all = append(all, next...)
		last = next
	}
	return all
}

// wideOnes is vectors about the widths of machine words and at the greatest width, of all kinds of bits.
func wideOnes() []string {
	seed := uint32(7)
	var all []string
	for _, wide := range []int{8, 31, 32, 33, 63, 64, 65, 128, 255, 256} {
		zeros := strings.Repeat("0", wide-1)
		all = append(all, zeros+"0", zeros+"1", "1"+zeros, strings.Repeat("1", wide), strings.Repeat("x", wide), strings.Repeat("z", wide), "x"+zeros, zeros+"z")
		for _, bits := range []string{"01", "01", "0000001x", "01xz", "1111z"} {
			v := make([]byte, wide)
			for i := range v {
				seed = seed*1664525 + 1013904223
				v[i] = bits[int(seed>>16)%len(bits)]
			}
			all = append(all, string(v))
		}
	}
	return all
}

// amounts is what vectors are shifted and asked by.
func amounts() []string {
	all := upToWide(3)
	for _, n := range []string{"11111", "100000", "111111", "1000000", "11111111", "100000000", "1x", "z1", "0000000000000000000000000000000000000000000000000000000000000000000000000000000000101"} {
		all = append(all, n)
	}
	return append(all, "1"+strings.Repeat("0", 31), "1"+strings.Repeat("0", 32), "1"+strings.Repeat("0", 63), "1"+strings.Repeat("0", 64), "1"+strings.Repeat("0", 255), strings.Repeat("1", 256), strings.Repeat("0", 256))
}

// lessKnown is v with x in the place of one known bit, for each of them.
func lessKnown(v string) []string {
	var all []string
	for i := range v {
		if v[i] == '0' || v[i] == '1' {
			all = append(all, v[:i]+"x"+v[i+1:])
		}
	}
	return all
}
