package logic_test

import (
	"silkworm/api"
	"silkworm/logic"
	"slices"
	"strings"
	"testing"
)

// knowsLess tells whether each bit of less is what it was, or x.
func knowsLess(was, less string) bool {
	if len(was) != len(less) {
		return false
	}
	for i := range was {
		if less[i] != was[i] && less[i] != 'x' {
			return false
		}
	}
	return true
}

func TestLo4KnownStaysKnown(t *testing.T) {
	var list []string
	for _, v := range append(upToWide(4), wideOnes()...) {
		if isKnown(v) {
			list = append(list, v)
		}
	}
	for _, a := range list {
		stays := func(name string, s string, e api.Errno) {
			if !isKnown(s) || e != api.OK {
				t.Errorf("%s of %q: %q %d", name, a, s, e)
			}
		}
		for _, op := range unaryOps {
			s, e := logic.Unary(op, a)
			stays("Unary", s, e)
		}
		b, e := logic.Truth(a)
		stays("Truth", string([]byte{b}), e)
		s, e := logic.Fit(a, api.MaxWide)
		stays("Fit", s, e)
		s, e = logic.Part(a, len(a)-1, 0)
		stays("Part", s, e)
		for _, b := range list {
			for _, op := range binaryOps {
				s, e := logic.Binary(op, a, b)
				stays("Binary", s, e)
			}
			if len(a) == len(b) {
				s, e := logic.Cond(a, a, b)
				stays("Cond", s, e)
			}
		}
	}
}

// calls is every call that the promise speaks of, of three vectors.
func calls(a, b, c string) []string {
	var all []string
	take := func(s string, e api.Errno) {
		if e != api.OK {
			s = strings.Repeat("!", int(e))
		}
		all = append(all, s)
	}
	for _, op := range unaryOps {
		take(logic.Unary(op, a))
	}
	for _, op := range binaryOps {
		take(logic.Binary(op, a, b))
	}
	take(logic.Cond(c, a, b))
	take(logic.Bit(a, b))
	take(logic.Fit(a, 1))
	take(logic.Fit(a, 5))
	take(logic.Part(a, len(a)-1, len(a)/2))
	truth, e := logic.Truth(a)
	take(string([]byte{truth}), e)
	return all
}

func lessIn(t *testing.T, a, b, c string) {
	t.Helper()
	was := calls(a, b, c)
	check := func(a2, b2, c2 string) {
		for i, less := range calls(a2, b2, c2) {
			if !knowsLess(was[i], less) {
				t.Errorf("call %d of %q %q %q: %q; of %q %q %q: %q", i, a, b, c, was[i], a2, b2, c2, less)
			}
		}
	}
	for _, v := range lessKnown(a) {
		check(v, b, c)
	}
	for _, v := range lessKnown(b) {
		check(a, v, c)
	}
	for _, v := range lessKnown(c) {
		check(a, b, v)
	}
}

func TestLo4LessIsKnown(t *testing.T) {
	list := upToWide(2)
	for _, a := range slices.Concat(list, []string{"010", "0x1", "1z0", "111", "zzz", "1101"}) {
		for _, b := range slices.Concat(list, []string{"000", "1x0", "011", "z01", "0011"}) {
			for _, c := range list {
				lessIn(t, a, b, c)
			}
		}
	}
}

func TestLo4LessIsKnownWide(t *testing.T) {
	var list []string
	for _, v := range wideOnes() {
		if len(v) == 64 {
			list = append(list, v)
		}
	}
	for _, a := range list {
		for _, b := range slices.Concat(list, []string{"101", "1" + strings.Repeat("0", 255)}) {
			lessIn(t, a, b, "01")
		}
	}
}

// R1, R2: whatever is handed in, an answer comes, and beside an error nothing else does.
func TestAllArgumentsAreAnswered(t *testing.T) {
	texts := append([]string{"0", "1", "x", "z", "0110", strings.Repeat("1", 256)}, noVectors...)
	answered := func(s string, e api.Errno) {
		if e != api.OK && s != "" || e == api.OK && logic.Check(s) != api.OK {
			t.Errorf("%q beside %d", s, e)
		}
	}
	for _, a := range texts {
		for _, m := range farInts {
			answered(logic.Fit(a, m))
			answered(logic.Unary(m, a))
			for _, n := range farInts {
				answered(logic.Part(a, m, n))
				answered(logic.Of(m, n))
			}
		}
		for _, b := range texts {
			for op := -2; op < 40; op++ {
				answered(logic.Binary(op, a, b))
			}
			answered(logic.Bit(a, b))
			for _, c := range texts {
				answered(logic.Cond(c, a, b))
			}
		}
	}
}

// R3: a vector that is cut out of a longer text is not read beyond its ends.
func TestNothingAroundIsRead(t *testing.T) {
	around := "q1x0110zq"
	inner := around[3:7]
	for i, s := range calls(inner, inner[1:3], inner[:1]) {
		if want := calls("0110", "11", "0")[i]; s != want {
			t.Errorf("call %d: %q, not %q", i, s, want)
		}
	}
	if n, e := logic.Number(inner); n != 6 || e != api.OK {
		t.Error(n, e)
	}
	if !logic.Rise(around[3:4], around[3:6]) {
		t.Error("Rise")
	}
}

// R4: what was asked between does not matter.
func TestCallsDoNotHangOnOthers(t *testing.T) {
	first := calls("01xz", "0011", "x")
	for _, v := range append(wideOnes(), noVectors...) {
		calls(v+"0", v, v)
	}
	for i, s := range calls("01xz", "0011", "x") {
		if s != first[i] {
			t.Errorf("call %d: %q, then %q", i, first[i], s)
		}
	}
}
