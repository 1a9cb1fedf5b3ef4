package stats_test

import (
	"math"
	"math/big"
	"silkworm/api"
	"silkworm/stats"
)

// The chapter's words told once more: what floats are asked for by their bits, and what they come to by whole numbers and fractions without end, that are rounded once.

// kindOf is where a float stands in the row by what it is: infinity below 0, numbers, infinity, no number.
func kindOf(x float64) int {
	bits := math.Float64bits(x)
	switch {
	case bits<<1>>53 != 2047:
		return 1
	case bits<<12 != 0:
		return 3
	case bits>>63 == 1:
		return 0
	}
	return 2
}

func signed(x float64) bool { return math.Float64bits(x)>>63 == 1 }

func exact(x float64) *big.Rat { return new(big.Rat).SetFloat64(x) }

// rounded is the float that is next to a fraction; 0 has the sign that is told.
func rounded(r *big.Rat, sign bool) float64 {
	x, _ := r.Float64()
	if x == 0 && sign {
		return math.Float64frombits(1 << 63)
	}
	return x
}

func whole(n int) float64 { return rounded(new(big.Rat).SetInt64(int64(n)), false) }

func plus(a, b float64) float64 { return rounded(new(big.Rat).Add(exact(a), exact(b)), false) }
func less(a, b float64) float64 { return rounded(new(big.Rat).Sub(exact(a), exact(b)), false) }
func times(a, b float64) float64 {
	return rounded(new(big.Rat).Mul(exact(a), exact(b)), signed(a) != signed(b))
}

// through is a ratio, by what both are.
func through(a, b float64) float64 {
	ka, kb := kindOf(a), kindOf(b)
	sign := signed(a) != signed(b)
	endless := inf
	if sign {
		endless = below
	}
	zero := rounded(new(big.Rat), sign)
	switch {
	case ka == 3 || kb == 3 || ka != 1 && kb != 1:
		return nan
	case ka != 1:
		return endless
	case kb != 1:
		return zero
	case a != 0 && b == 0:
		return endless
	case b == 0:
		return nan
	case a == 0:
		return zero
	}
	return rounded(new(big.Rat).Quo(exact(a), exact(b)), sign)
}

// order is how two floats stand, by what they are, then as fractions, then by their signs.
func order(a, b float64) int {
	ka, kb := kindOf(a), kindOf(b)
	switch {
	case ka < kb:
		return -1
	case ka > kb:
		return 1
	case ka != 1:
		return 0
	}
	if c := exact(a).Cmp(exact(b)); c != 0 {
		return c
	}
	switch {
	case signed(a) && !signed(b):
		return -1
	case signed(b) && !signed(a):
		return 1
	}
	return 0
}

// thousandths are those of a float, its point's right side taken off by whole numbers.
func thousandths(x float64) (n, kind int) {
	switch kindOf(x) {
	case 3:
		return 0, 1
	case 2:
		return 0, 2
	case 0:
		return 0, 3
	}
	y := times(x, 1000)
	if kindOf(y) != 1 || exact(y).Num().CmpAbs(new(big.Int).Mul(big.NewInt(1<<53), exact(y).Denom())) > 0 {
		return 0, 4
	}
	q := new(big.Int).Quo(exact(y).Num(), exact(y).Denom())
	return int(q.Int64()), 0
}

// meant is what the chapter tells of a waveform that may be, a net of it or -1, and a horizon that may be.
func meant(w api.Wave, net, horizon int) stats.Stats {
	s := stats.Stats{Least: inf, Most: below}
	var gaps []float64
	last := 0
	for _, c := range w.List {
		if net >= 0 && c.Net != net || c.Time > horizon {
			continue
		}
		if s.Count > 0 {
			gaps = append(gaps, whole(c.Time-last))
		}
		s.Count++
		last = c.Time
	}
	s.Rate = through(whole(s.Count), whole(horizon))
	total := 0.0
	for _, gap := range gaps {
		total = plus(total, gap)
		if order(gap, s.Least) < 0 {
			s.Least = gap
		}
		if order(gap, s.Most) > 0 {
			s.Most = gap
		}
	}
	n := whole(len(gaps))
	s.Mean = through(total, n)
	total = 0
	for _, gap := range gaps {
		far := less(gap, s.Mean)
		total = plus(total, times(far, far))
	}
	s.Spread = through(total, n)
	return s
}
