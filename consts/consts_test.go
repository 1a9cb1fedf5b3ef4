package consts_test

import (
	"fmt"
	"silkworm/api"
	"silkworm/consts"
	"slices"
	"strings"
	"testing"
)

func TestCn2Examples(t *testing.T) {
	is(t, "N + 1", 4)
	refused(t, "1 << 31", 2, api.ErrOver)
	is(t, "0 ? K : 2", 2)
}

func TestCn2Numbers(t *testing.T) {
	for v, n := range map[string]int{
		"0": 0, "1": 1, "10": 2, "0110": 6, strings.Repeat("1", 31): most, "0" + strings.Repeat("1", 31): most, strings.Repeat("0", 225) + strings.Repeat("1", 31): most,
		strings.Repeat("0", 256): 0, strings.Repeat("0", 255) + "1": 1, "0" + strings.Repeat("1", 30) + "0": most - 1, "1" + strings.Repeat("0", 30): 1 << 30,
	} {
		exprIs(t, bits(v, 3), n)
		exprIs(t, api.Expr{Op: api.OpNum, Value: v, Plain: true, At: 3}, n)
		exprIs(t, api.Expr{Op: api.OpNum, Value: v, Name: "K", At: 3}, n)
		exprIs(t, node(api.OpNeg, 2, bits(v, 3)), -n)
	}
	for source, n := range map[string]int{"0": 0, "12": 12, "4'b0101": 5, "8'hff": 255, "3'd5": 5, "256'd7": 7, "2147483647": most, "32'h7fffffff": most, "40'h7fffffff": most} {
		is(t, source, n)
	}
}

func TestCn2NoNumbers(t *testing.T) {
	for _, v := range noNumbers() {
		exprRefused(t, bits(v, 3), 3, api.ErrConst)
		exprRefused(t, api.Expr{Op: api.OpNum, Value: v, Plain: true, At: 9}, 9, api.ErrConst)
		exprRefused(t, node(api.OpNeg, 2, bits(v, 3)), 3, api.ErrConst)
		exprRefused(t, node(api.OpLand, 2, bits("0", 1), bits(v, 3)), 3, api.ErrConst)
	}
	for _, source := range []string{"2147483648", "4294967295", "32'h80000000", "33'h100000000", "1'bx", "1'bz", "4'b010x", "8'hzF", "256'hx"} {
		refused(t, source, 0, api.ErrConst)
		refused(t, "-"+source, 1, api.ErrConst)
		refused(t, "1 + "+source, 4, api.ErrConst)
		refused(t, "!"+source, 1, api.ErrConst)
	}
}

func TestCn2Names(t *testing.T) {
	for s, n := range given() {
		exprIs(t, name(s, 6), n)
		exprIs(t, api.Expr{Op: api.OpName, Name: s, Value: "x", Plain: true, At: 6}, n)
	}
	for _, s := range []string{"K", "n", "NN", "N ", "", "0", "\x00"} {
		exprRefused(t, name(s, 6), 6, api.ErrWord)
		exprRefused(t, api.Expr{Op: api.OpName, Name: s, Value: "1"}, 0, api.ErrWord)
		exprRefused(t, node(api.OpNeg, 2, name(s, 6)), 6, api.ErrWord)
	}
	for _, at := range []int{0, 1, -1, -1 << 63, 1<<63 - 1} {
		exprRefused(t, name("K", at), at, api.ErrWord)
		exprRefused(t, bits("x", at), at, api.ErrConst)
		exprRefused(t, node(api.OpAdd, at, name("B", 1), name("I", 2)), at, api.ErrOver)
		exprRefused(t, node(api.OpNot, at, name("B", 1)), at, api.ErrConst)
	}
}

// A name's number is the one that it has when it is asked for.
func TestCn2NamesSetAgain(t *testing.T) {
	s := consts.New()
	x := exprOf(t, "N + N")
	told(t, s, x, 0, api.Diag{At: 0, Code: api.ErrWord})
	for _, n := range []int{3, -3, 0, 1 << 29} {
		s.Set("N", n)
		told(t, s, x, 2*n, api.Diag{})
	}
	s.Set("N", 1<<30)
	told(t, s, x, 0, api.Diag{At: 2, Code: api.ErrOver})
}

func TestCn2Operators(t *testing.T) {
	for source, n := range map[string]int{
		"-N": -3, "-M": 4, "-Z": 0, "--N": 3, "-B": least, "-L": most, "!Z": 1, "!N": 0, "!M": 0, "!!M": 1,
		"N + M": -1, "M + M": -8, "5 + 6": 11, "B + 0": most, "B + J": most - 1, "L + 1": least + 1, "B + L": 0,
		"N - M": 7, "M - N": -7, "0 - 5": -5, "L - J": least + 1, "0 - B": least, "0 - L": most, "B - B": 0,
		"N << 2": 12, "M << 2": -16, "1 << 30": 1 << 30, "0 << 31": 0, "1 << 0": 1, "J << 30": -1 << 30, "B << 0": most, "L << 0": least,
		"13 >> 2": 3, "B >> 30": 1, "B >> 31": 0, "B >> 0": most, "M >> 1": -2, "J >> 31": -1, "L >> 31": -1, "L >> 0": least, "-5 >> 1": -3, "-4 >> 1": -2, "-1 >> 1": -1, "-7 >> 2": -2,
		"M < N": 1, "N < M": 0, "N < N": 0, "M <= N": 1, "N <= M": 0, "N <= N": 1, "M > N": 0, "N > M": 1, "N > N": 0, "M >= N": 0, "N >= M": 1, "N >= N": 1,
		"N == N": 1, "N == M": 0, "M == M": 1, "N != N": 0, "N != M": 1, "M < Z": 1, "L < B": 1, "L >= B": 0,
		"12 & 10": 8, "12 | 10": 14, "12 ^ 10": 6, "B & B": most, "B | B": most, "B ^ B": 0, "B ^ 0": most, "0 | 0": 0,
		"N && M": 1, "N && Z": 0, "Z && M": 0, "Z && Z": 0, "N || M": 1, "N || Z": 1, "Z || M": 1, "Z || Z": 0, "M && M": 1, "2 && 4": 1, "2 || 4": 1,
		"N ? 5 : 6": 5, "Z ? 5 : 6": 6, "M ? 5 : 6": 5, "J ? 5 : 6": 5, "1 ? M : N": -4, "0 ? M : N": 3, "2 ? 0 : 1": 0,
		"N + 1 << 2 - 1": 8, "(N + M) - (M - N) + 2": 8, "N < M || M < N && !Z": 1, "N == 3 ? M == 3 ? 10 : 20 : 30": 20, "-(N + M) << (N & 2)": 4, "(B - 1) + (1 << 0)": most,
	} {
		is(t, source, n)
	}
}

// What comes to more than the greatest number, or to less than the least one, is told at its own sign.
func TestCn2Over(t *testing.T) {
	for source, at := range map[string]int{
		"B + 1": 2, "1 + B": 2, "B + B": 2, "L + J": 2, "L + L": 2, "L - 1": 2, "J - B": 2, "B - J": 2, "B - L": 2, "L - B": 2, "0 - L - I - J - J": 14,
		"1 << 31": 2, "J << 31": 2, "B << 1": 2, "B << 31": 2, "L << 1": 2, "L << 31": 2, "2 << 30": 2, "N << 30": 2, "M << 30": 2,
		"1 + (B + 1)": 7, "(B + 1) - 1": 3, "-(B + 1)": 4, "!(B + 1)": 4, "0 && B + 1": 7, "1 || B + 1": 7, "(B + 1) < 0": 3, "(L - 1) ? 1 : 2": 3, "1 ? B + 1 : 2": 6, "0 ? 2 : B + 1": 10,
	} {
		refused(t, source, at, api.ErrOver)
	}
	// One less, or one more, is the last number that there is.
	for source, n := range map[string]int{"B - 1 + 1": most, "L + 1 - 1": least, "-B - 0": least, "(1 << 30) - 1 + (1 << 30)": most, "(J << 30) + 1 + (J << 30)": least} {
		is(t, source, n)
	}
}

func TestCn2Shifts(t *testing.T) {
	for _, a := range edges() {
		for _, b := range append(edges(), 29) {
			for _, op := range []int{api.OpShl, api.OpShr} {
				s := scopeWith(t, map[string]int{"A": a, "B": b})
				x := node(op, 5, name("A", 1), name("B", 2))
				want := a
				for range min(max(b, 0), 31) {
					if op == api.OpShl {
						want *= 2
					} else {
						want = (want - (want & 1)) / 2
					}
				}
				if b < 0 || b > 31 || want < least || want > most {
					told(t, s, x, 0, api.Diag{At: 5, Code: api.ErrOver})
				} else {
					told(t, s, x, want, api.Diag{})
				}
			}
		}
	}
	for _, source := range []string{"N << -1", "N >> -1", "N << 32", "N >> 32", "0 << 32", "0 >> 32", "0 << J", "0 >> J", "M << 33", "M >> L", "M >> B", "Z << B", "Z << L"} {
		refused(t, source, 2, api.ErrOver)
	}
}

func TestCn2BitsOfNumbersBelowNought(t *testing.T) {
	for _, sign := range []string{"&", "|", "^"} {
		for _, source := range []string{"M %s N", "N %s M", "M %s M", "J %s 0", "0 %s J", "L %s B", "B %s L", "L %s L"} {
			refused(t, fmt.Sprintf(source, sign), 2, api.ErrOver)
		}
		refused(t, "N "+sign+" (0 - 1)", 2, api.ErrOver)
		refused(t, "K "+sign+" J", 0, api.ErrWord)
		refused(t, "J "+sign+" K", 4, api.ErrWord)
	}
	is(t, "0 & 0", 0)
	is(t, "Z ^ B", most)
}

// The part of a ? : that is not taken is not looked at, whatever it is.
func TestCn2TheOtherWay(t *testing.T) {
	for _, wrong := range []string{"K", "1'bx", "4294967295", "B + 1", "L - 1", "~N", "{N}", "N[1]", "N[1:0]", "&N", "|N", "^N", "1 << 32", "J & 1", "K ? K : K", "~K + K"} {
		is(t, "1 ? 7 : ("+wrong+")", 7)
		is(t, "0 ? ("+wrong+") : 7", 7)
		is(t, "J ? 7 : ("+wrong+")", 7)
		is(t, "1 ? 0 ? ("+wrong+") : 7 : ("+wrong+")", 7)
		is(t, "(1 ? 0 : ("+wrong+")) + (0 ? ("+wrong+") : 7)", 7)
	}
	for _, wrong := range []api.Expr{{}, node(99, 1), node(api.OpAdd, 1), node(api.OpCond, 1, name("N", 2), name("N", 3)), {Op: -5}} {
		exprIs(t, node(api.OpCond, 5, name("N", 1), name("M", 2), wrong), -4)
		exprIs(t, node(api.OpCond, 5, name("Z", 1), wrong, name("M", 2)), -4)
	}
	refused(t, "1 ? K : 7", 4, api.ErrWord)
	refused(t, "0 ? 7 : K", 8, api.ErrWord)
	refused(t, "K ? H : G", 0, api.ErrWord)
	refused(t, "1'bx ? H : G", 0, api.ErrConst)
	refused(t, "(B + 1) ? H : G", 3, api.ErrOver)
	refused(t, "(K + ~1) ? H : G", 1, api.ErrWord)
}

// Both parts of && and || are looked at, whatever the first one tells.
func TestCn2BothParts(t *testing.T) {
	for _, source := range []string{"0 && K", "1 && K", "0 || K", "1 || K"} {
		refused(t, source, 5, api.ErrWord)
	}
	for _, source := range []string{"0 && ~1", "1 && ~1", "0 || ~1", "1 || ~1", "0 && 1'bx", "1 || 1'bz"} {
		refused(t, source, 5, api.ErrConst)
	}
	refused(t, "K && 0", 0, api.ErrWord)
	refused(t, "K || 1", 0, api.ErrWord)
	refused(t, "0 && (B + 1)", 8, api.ErrOver)
	refused(t, "1 || (B + 1)", 8, api.ErrOver)
}

// The first reason: from the first part to the last, and a part ahead of what it is part of.
func TestCn2FirstReason(t *testing.T) {
	for source, why := range map[string]api.Diag{
		"K + H": {At: 0, Code: api.ErrWord}, "1'bx + K": {At: 0, Code: api.ErrConst}, "K + 1'bx": {At: 0, Code: api.ErrWord}, "(B + 1) + K": {At: 3, Code: api.ErrOver}, "K + (B + 1)": {At: 0, Code: api.ErrWord},
		"~K + H": {At: 0, Code: api.ErrConst}, "K + ~H": {At: 0, Code: api.ErrWord}, "N + ~K": {At: 4, Code: api.ErrConst}, "{K} + H": {At: 0, Code: api.ErrConst}, "K[H] + G": {At: 0, Code: api.ErrConst}, "(N + K[H:G]) + G": {At: 5, Code: api.ErrConst},
		"(N + K) + (H + G)": {At: 5, Code: api.ErrWord}, "(N + M) + (N + K)": {At: 15, Code: api.ErrWord}, "B + (1 + K)": {At: 9, Code: api.ErrWord}, "B + (1 + 1)": {At: 2, Code: api.ErrOver}, "B + B + K": {At: 2, Code: api.ErrOver},
		"B + (B + 1)": {At: 7, Code: api.ErrOver}, "(N << 32) + K": {At: 3, Code: api.ErrOver}, "(J & N) - ~1": {At: 3, Code: api.ErrOver}, "1 << (K + 32)": {At: 6, Code: api.ErrWord}, "B + 1 << 32": {At: 2, Code: api.ErrOver}, "1 + 1 << 32": {At: 6, Code: api.ErrOver},
		"N ? K : ~1": {At: 4, Code: api.ErrWord}, "Z ? K : ~1": {At: 8, Code: api.ErrConst}, "(N ? 1 : K) + H": {At: 14, Code: api.ErrWord}, "-(-(-(K)))": {At: 6, Code: api.ErrWord}, "!(~(!(K)))": {At: 2, Code: api.ErrConst},
	} {
		refused(t, source, why.At, why.Code)
	}
	// What comes first in the expression counts, not what has the lower place.
	exprRefused(t, node(api.OpAdd, 1, name("K", 9), name("H", 2)), 9, api.ErrWord)
	exprRefused(t, node(api.OpAdd, 1, node(api.OpAdd, 8, name("B", 7), name("I", 6)), name("H", 2)), 8, api.ErrOver)
	exprRefused(t, node(api.OpAdd, 1, name("N", 9), name("H", 2)), 2, api.ErrWord)
	exprRefused(t, node(api.OpLt, 0, bits("x", -4), bits("z", -7)), -4, api.ErrConst)
}

// Operators that have no number are refused at their place, and their parts are not looked at.
func TestCn2WithoutNumber(t *testing.T) {
	for _, source := range []string{"~N", "&N", "|N", "^N", "{N}", "{N, M}", "N[1]", "N[1:0]", "~K", "{K, 1'bx}", "K[K]", "N[K:(B + 1)]", "&(B + 1)", "~~N"} {
		refused(t, source, 0, api.ErrConst)
		refused(t, "1 + "+source, 4, api.ErrConst)
		refused(t, source+" + K", 0, api.ErrConst)
		refused(t, "K + "+source, 0, api.ErrWord)
		refused(t, "!"+source, 1, api.ErrConst)
	}
	kid := []api.Expr{name("K", 1), bits("x", 2), name("N", 3), node(api.OpAdd, 4, name("B", 5), name("B", 6)), node(99, 7)}
	for _, op := range withoutNumber() {
		for n := range len(kid) + 1 {
			exprRefused(t, api.Expr{Op: op, At: 8, Kids: kid[:n]}, 8, api.ErrConst)
			exprRefused(t, api.Expr{Op: op, At: 8, Kids: kid[len(kid)-n:], Name: "N", Value: "1"}, 8, api.ErrConst)
		}
	}
}

// What has too few or too many parts, or no operator that there is, is refused at its place, behind its parts.
func TestCn2Parts(t *testing.T) {
	good := []api.Expr{name("N", 1), bits("1", 2), name("Z", 3), node(api.OpNeg, 4, name("N", 5)), name("I", 6)}
	with := func(op, n int) api.Expr {
		return api.Expr{Op: op, At: 20, Kids: slices.Clone(good[:n]), Name: "N", Value: "1"}
	}
	wrongParts := func(x api.Expr) {
		exprRefused(t, x, 20, api.ErrConst)
		exprRefused(t, node(api.OpAdd, 30, x, name("K", 31)), 20, api.ErrConst)
		exprRefused(t, node(api.OpAdd, 30, name("N", 31), x), 20, api.ErrConst)
		exprRefused(t, node(api.OpAdd, 30, name("K", 31), x), 31, api.ErrWord)
		exprRefused(t, node(api.OpCat, 30, x), 30, api.ErrConst)
		for i := range x.Kids {
			for wrong, code := range map[string]api.Errno{"K": api.ErrWord, "~N": api.ErrConst, "1'bx": api.ErrConst, "B + 1": api.ErrOver} {
				y := x
				y.Kids = slices.Clone(x.Kids)
				y.Kids[i] = exprOf(t, wrong)
				y.Kids[i].At = 15
				exprRefused(t, y, 15, code)
			}
		}
	}
	for op := api.OpCond; op <= api.OpLor; op++ {
		for n := range len(good) + 1 {
			if parts := partsOf(op); parts >= 0 && n != parts {
				wrongParts(with(op, n))
			}
		}
	}
	for _, op := range noOperators() {
		for n := range len(good) + 1 {
			wrongParts(with(op, n))
		}
	}
	exprRefused(t, api.Expr{}, 0, api.ErrConst)
}

// Numbers and names have no parts that would count.
func TestCn2PartsOfNumbersAndNames(t *testing.T) {
	for _, k := range []api.Expr{name("K", 1), bits("x", 1), name("N", 1), node(99, 1)} {
		exprIs(t, api.Expr{Op: api.OpNum, Value: "101", Kids: []api.Expr{k}}, 5)
		exprIs(t, api.Expr{Op: api.OpName, Name: "N", Kids: []api.Expr{k, k}}, 3)
		exprRefused(t, api.Expr{Op: api.OpName, Name: "K", At: 4, Kids: []api.Expr{k}}, 4, api.ErrWord)
	}
}
