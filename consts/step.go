package consts

import "silkworm/api"

// step is an expression some of whose parts were looked at: how many, and what the first ones came to.
type step struct {
	x       *api.Expr
	count   int
	numbers [2]int
}

// take keeps a part's number. More than two are never asked for: of a ? : only two parts are looked at, and what has too many is refused.
func (s *step) take(n int) {
	if s.count < len(s.numbers) {
		s.numbers[s.count] = n
	}
	s.count++
}

// next is the part that is looked at now. nil: all were.
func (s *step) next() *api.Expr {
	at := s.count
	if s.x.Op == api.OpCond && s.counted() {
		at = s.chosen()
	}
	if at >= len(s.x.Kids) {
		return nil
	}
	return &s.x.Kids[at]
}

// chosen is which part of a ? : comes next.
func (s *step) chosen() int {
	switch {
	case s.count == 1 && s.numbers[0] == 0:
		return 2
	case s.count == 2:
		return len(s.x.Kids)
	}
	return s.count
}

func (s *step) counted() bool {
	return len(s.x.Kids) == partsOf(s.x.Op)
}

func (s *step) number() int {
	if !s.counted() {
		panic(free(s.x.At))
	}
	n, ok := comesTo(s.x.Op, s.numbers[0], s.numbers[1])
	if !ok || !fits(n) {
		panic(over(s.x.At))
	}
	return n
}
