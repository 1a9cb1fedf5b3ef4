package logic_test

import (
	"silkworm/api"
	"silkworm/logic"
	"strings"
	"testing"
)

func TestLo1Check(t *testing.T) {
	for _, v := range append(upToWide(4), wideOnes()...) {
		if e := logic.Check(v); e != api.OK {
			t.Errorf("Check(%q): %d", v, e)
		}
	}
	for _, v := range noVectors {
		if e := logic.Check(v); e != api.ErrBits {
			t.Errorf("Check(%q): %d", v, e)
		}
	}
	for b := range 256 {
		is := logic.Check(string([]byte{byte(b)})) == api.OK
		if want := strings.IndexByte("01xz", byte(b)) >= 0; is != want {
			t.Errorf("Check of the byte %d: %v", b, is)
		}
	}
}

func TestLo1Fit(t *testing.T) {
	for _, v := range append(upToWide(3), wideOnes()...) {
		for wide := 1; wide <= api.MaxWide; wide++ {
			want := strings.Repeat("0", api.MaxWide) + v
			want = want[len(want)-wide:]
			if s, e := logic.Fit(v, wide); s != want || e != api.OK {
				t.Fatalf("Fit(%q, %d): %q %d", v, wide, s, e)
			}
		}
	}
}

func TestLo1FitRefused(t *testing.T) {
	for _, wide := range farInts {
		for _, v := range append([]string{"01"}, noVectors...) {
			want := api.OK
			if wide < 1 || wide > api.MaxWide {
				want = api.ErrArg
			} else if v != "01" {
				want = api.ErrBits
			}
			if s, e := logic.Fit(v, wide); e != want || e != api.OK && s != "" {
				t.Errorf("Fit(%q, %d): %q %d", v, wide, s, e)
			}
		}
	}
}

func TestLo1Truth(t *testing.T) {
	for _, v := range append(upToWide(4), wideOnes()...) {
		if b, e := logic.Truth(v); b != truthOf(v) || e != api.OK {
			t.Errorf("Truth(%q): %c %d", v, b, e)
		}
	}
	for _, v := range noVectors {
		if b, e := logic.Truth(v); b != 0 || e != api.ErrBits {
			t.Errorf("Truth(%q): %c %d", v, b, e)
		}
	}
}

func TestLo1Number(t *testing.T) {
	zeros, ones := strings.Repeat("0", 300), strings.Repeat("1", 300)
	for _, x := range []struct {
		v    string
		n    int
		want api.Errno
	}{
		{"0", 0, api.OK}, {"1", 1, api.OK}, {"0110", 6, api.OK},
		{ones[:31], 1<<31 - 1, api.OK}, {zeros[:225] + ones[:31], 1<<31 - 1, api.OK},
		{"1" + zeros[:30], 1 << 30, api.OK},
		{"1" + zeros[:31], 0, api.ErrOver}, {zeros[:224] + "1" + zeros[:31], 0, api.ErrOver},
		{"1" + zeros[:32], 0, api.ErrOver}, {"1" + zeros[:63], 0, api.ErrOver}, {"1" + zeros[:64], 0, api.ErrOver},
		{"1" + zeros[:255], 0, api.ErrOver}, {ones[:256], 0, api.ErrOver}, {zeros[:256], 0, api.OK},
		{"x", 0, api.ErrConst}, {"z", 0, api.ErrConst}, {"0x", 0, api.ErrConst}, {"z1", 0, api.ErrConst},
		{ones[:255] + "x", 0, api.ErrConst}, {"z" + ones[:255], 0, api.ErrConst},
	} {
		if n, e := logic.Number(x.v); n != x.n || e != x.want {
			t.Errorf("Number(%q): %d %d", x.v, n, e)
		}
	}
	for _, v := range noVectors {
		if n, e := logic.Number(v); n != 0 || e != api.ErrBits {
			t.Errorf("Number(%q): %d %d", v, n, e)
		}
	}
}

func TestLo1Of(t *testing.T) {
	for _, x := range []struct {
		n, wide int
		want    string
	}{
		{0, 1, "0"}, {1, 1, "1"}, {2, 1, "0"}, {6, 4, "0110"}, {6, 2, "10"}, {1<<31 - 1, 31, strings.Repeat("1", 31)},
		{1 << 31, 31, strings.Repeat("0", 31)}, {1 << 31, 32, "1" + strings.Repeat("0", 31)},
		{1<<63 - 1, 63, strings.Repeat("1", 63)}, {1<<63 - 1, 64, "0" + strings.Repeat("1", 63)},
		{1<<63 - 1, 256, strings.Repeat("0", 193) + strings.Repeat("1", 63)}, {5, 256, strings.Repeat("0", 253) + "101"},
	} {
		if s, e := logic.Of(x.n, x.wide); s != x.want || e != api.OK {
			t.Errorf("Of(%d, %d): %q %d", x.n, x.wide, s, e)
		}
	}
	for n := range 300 {
		s, _ := logic.Of(n, 9)
		if m, e := logic.Number(s); m != n || e != api.OK {
			t.Errorf("Number of Of(%d, 9): %d %d", n, m, e)
		}
	}
}

func TestLo1OfRefused(t *testing.T) {
	for _, n := range farInts {
		for _, wide := range farInts {
			bad := n < 0 || wide < 1 || wide > api.MaxWide
			s, e := logic.Of(n, wide)
			if bad && (s != "" || e != api.ErrArg) || !bad && (len(s) != wide || e != api.OK) {
				t.Errorf("Of(%d, %d): %q %d", n, wide, s, e)
			}
		}
	}
}

func TestLo1Part(t *testing.T) {
	for _, v := range append(upToWide(3), wideOnes()[:13]...) {
		for hi := range len(v) {
			for lo := 0; lo <= hi; lo++ {
				want := ""
				for i := lo; i <= hi; i++ {
					want = v[len(v)-1-i:len(v)-i] + want
				}
				if s, e := logic.Part(v, hi, lo); s != want || e != api.OK {
					t.Errorf("Part(%q, %d, %d): %q %d", v, hi, lo, s, e)
				}
			}
		}
	}
	wide := "1" + strings.Repeat("z", 254) + "x"
	if s, e := logic.Part(wide, 255, 0); s != wide || e != api.OK {
		t.Error(s, e)
	}
	if s, e := logic.Part(wide, 255, 255); s != "1" || e != api.OK {
		t.Error(s, e)
	}
}

func TestLo1PartRefused(t *testing.T) {
	for _, x := range [][2]int{{4, 0}, {4, 4}, {3, -1}, {-1, -1}, {1, 2}, {0, 3}, {-1 << 63, 1<<63 - 1}, {1<<63 - 1, 0}, {3, -1 << 63}} {
		if s, e := logic.Part("01xz", x[0], x[1]); s != "" || e != api.ErrArg {
			t.Errorf("Part(01xz, %d, %d): %q %d", x[0], x[1], s, e)
		}
	}
	for _, v := range noVectors {
		for _, hi := range farInts {
			if s, e := logic.Part(v, hi, 1); s != "" || e != api.ErrBits {
				t.Errorf("Part(%q, %d, 1): %q %d", v, hi, s, e)
			}
		}
	}
}

func TestLo1Bit(t *testing.T) {
	for _, v := range append(upToWide(3), wideOnes()...) {
		for _, at := range append(amounts(), "11111111", "11111110") {
			if s, e := logic.Bit(v, at); s != wantBit(v, at) || e != api.OK {
				t.Errorf("Bit(%q, %q): %q %d", v, at, s, e)
			}
		}
	}
	for _, v := range noVectors {
		if s, e := logic.Bit(v, "0"); s != "" || e != api.ErrBits {
			t.Errorf("Bit(%q, 0): %q %d", v, s, e)
		}
		if s, e := logic.Bit("0", v); s != "" || e != api.ErrBits {
			t.Errorf("Bit(0, %q): %q %d", v, s, e)
		}
	}
}

func TestLo1Rise(t *testing.T) {
	rises := map[string]bool{"01": true, "0x": true, "0z": true, "x1": true, "z1": true}
	for _, old := range append(upToWide(2), wideOnes()...) {
		for _, v := range append(upToWide(2), wideOnes()...) {
			want := rises[old[len(old)-1:]+v[len(v)-1:]]
			if is := logic.Rise(old, v); is != want {
				t.Errorf("Rise(%q, %q): %v", old, v, is)
			}
		}
	}
	for _, v := range noVectors {
		if logic.Rise(v, "1") || logic.Rise("0", v) || logic.Rise(v, v) {
			t.Errorf("Rise of %q", v)
		}
	}
	if logic.Rise("20", "1") || logic.Rise("0", "21") {
		t.Error("Rise of what is no vector but for its lowest bit")
	}
}

func TestLo2Unary(t *testing.T) {
	for _, op := range unaryOps {
		for _, a := range append(upToWide(5), wideOnes()...) {
			if s, e := logic.Unary(op, a); s != wantUnary(op, a) || e != api.OK {
				t.Errorf("Unary(%d, %q): %q %d", op, a, s, e)
			}
		}
	}
}

func TestLo2UnaryRefused(t *testing.T) {
	for _, op := range noUnary {
		for _, a := range append([]string{"01"}, noVectors...) {
			if s, e := logic.Unary(op, a); s != "" || e != api.ErrArg {
				t.Errorf("Unary(%d, %q): %q %d", op, a, s, e)
			}
		}
	}
	for _, op := range unaryOps {
		for _, a := range noVectors {
			if s, e := logic.Unary(op, a); s != "" || e != api.ErrBits {
				t.Errorf("Unary(%d, %q): %q %d", op, a, s, e)
			}
		}
	}
}

func binaryIs(t *testing.T, op int, a, b string) {
	t.Helper()
	if s, e := logic.Binary(op, a, b); s != wantBinary(op, a, b) || e != api.OK {
		t.Errorf("Binary(%d, %q, %q): %q %d, not %q", op, a, b, s, e, wantBinary(op, a, b))
	}
}

func TestLo3Binary(t *testing.T) {
	small, wide := upToWide(3), wideOnes()
	for _, op := range binaryOps {
		for _, a := range small {
			for _, b := range small {
				binaryIs(t, op, a, b)
			}
			for _, b := range wide {
				binaryIs(t, op, a, b)
				binaryIs(t, op, b, a)
			}
		}
		for _, a := range wide {
			for _, b := range wide {
				binaryIs(t, op, a, b)
			}
			for _, b := range amounts() {
				binaryIs(t, op, a, b)
			}
		}
	}
}

func TestLo3Examples(t *testing.T) {
	for _, x := range []struct {
		op         int
		a, b, want string
	}{
		{api.OpAdd, "01", "1x", "xx"}, {api.OpAnd, "0z1", "xx1", "0x1"}, {api.OpAnd, "0", "x", "0"},
		{api.OpAdd, "1", "1", "0"}, {api.OpAdd, strings.Repeat("1", 256), "1", strings.Repeat("0", 256)},
		{api.OpSub, "0", strings.Repeat("0", 255) + "1", strings.Repeat("1", 256)},
		{api.OpShl, "1xz", "01", "xz0"}, {api.OpShr, "zx1", "01", "0zx"}, {api.OpShl, "xz1", "11", "000"},
		{api.OpShr, "xz1", "1000", "000"}, {api.OpShl, "1", "z", "x"}, {api.OpShl, "xz1", "0", "xz1"},
		{api.OpEq, "x", "x", "x"}, {api.OpLt, "111", "1000", "1"}, {api.OpGe, "0010", "10", "1"}, {api.OpNe, "01", "1", "0"},
		{api.OpLand, "0", "x", "0"}, {api.OpLand, "z1", "10", "1"}, {api.OpLor, "z0", "00", "x"},
	} {
		if s, e := logic.Binary(x.op, x.a, x.b); s != x.want || e != api.OK {
			t.Error(x, s, e)
		}
	}
}

func TestLo3BinaryRefused(t *testing.T) {
	for _, v := range noVectors {
		for _, op := range noBinary {
			for _, x := range [][2]string{{"0", "1"}, {v, "1"}, {"0", v}, {v, v}} {
				if s, e := logic.Binary(op, x[0], x[1]); s != "" || e != api.ErrArg {
					t.Errorf("Binary(%d, %q): %q %d", op, x, s, e)
				}
			}
		}
		for _, op := range binaryOps {
			for _, x := range [][2]string{{v, "1"}, {"0", v}, {v, v}} {
				if s, e := logic.Binary(op, x[0], x[1]); s != "" || e != api.ErrBits {
					t.Errorf("Binary(%d, %q): %q %d", op, x, s, e)
				}
			}
		}
	}
}

func TestLo3Cond(t *testing.T) {
	small, wide := upToWide(3), wideOnes()
	for _, c := range append(upToWide(2), wide[len(wide)-13:]...) {
		for _, list := range [][]string{small, wide} {
			for _, a := range list {
				for _, b := range list {
					if len(a) != len(b) {
						continue
					}
					if s, e := logic.Cond(c, a, b); s != wantCond(c, a, b) || e != api.OK {
						t.Errorf("Cond(%q, %q, %q): %q %d", c, a, b, s, e)
					}
				}
			}
		}
	}
	if s, e := logic.Cond("x", "01", "00"); s != "0x" || e != api.OK {
		t.Error(s, e)
	}
	if s, e := logic.Cond("z", "zz01", "zx01"); s != "xx01" || e != api.OK {
		t.Error(s, e)
	}
}

func TestLo3CondRefused(t *testing.T) {
	for _, c := range []string{"0", "1", "x", "10"} {
		if s, e := logic.Cond(c, "01", "011"); s != "" || e != api.ErrArg {
			t.Error(c, s, e)
		}
	}
	for _, v := range noVectors {
		for _, x := range [][3]string{{v, "0", "1"}, {v, "0", "11"}, {"1", v, "1"}, {"1", "0", v}, {"1", v, v}} {
			if s, e := logic.Cond(x[0], x[1], x[2]); s != "" || e != api.ErrBits {
				t.Errorf("Cond(%q): %q %d", x, s, e)
			}
		}
	}
}
