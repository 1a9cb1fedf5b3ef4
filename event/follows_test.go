package event_test

import (
	"silkworm/api"
	"slices"
	"testing"
)

// sorted is a list in its order.
func sorted(list []api.Event) []api.Event {
	out := slices.Clone(list)
	for i := range out {
		for k := i; k > 0 && ahead(out[k], out[k-1]); k-- {
			out[k], out[k-1] = out[k-1], out[k]
		}
	}
	return out
}

// Ev2: in whatever order they were put.
func TestEv2AllOrders(t *testing.T) {
	for _, list := range [][]api.Event{
		{ev(1, 0, 0, 1), ev(2, 0, 0, 2), ev(3, 0, 0, 3), ev(4, 0, 0, 4), ev(5, 0, 0, 5), ev(6, 0, 0, 6), ev(7, 0, 0, 7)},
		{ev(0, 0, 1, 1), ev(0, 1, 0, 2), ev(0, 1, 1, 0), ev(0, 1, 1, 2), ev(1, 0, 0, 3), ev(1, 0, 0, 4), ev(1, 0, 1, -1)},
		{ev(3, -1, 9, 9), ev(3, 0, 8, 8), ev(3, 0, 8, 9), ev(3, 0, 9, 8), ev(3, 1, 7, 7), ev(api.MaxTime, -1, 0, 0), ev(api.MaxTime, 0, -1, 0)},
	} {
		want := sorted(list)
		orders(list, func(list []api.Event) {
			gives(t, holding(t, 7, list...), want...)
		})
	}
}

func TestEv2Many(t *testing.T) {
	d := dice(1)
	var list []api.Event
	for i := range 4096 {
		list = append(list, ev(d.roll(300), d.roll(5)-2, d.roll(4), i))
	}
	want := sorted(list)
	for range 5 {
		gives(t, holding(t, 4096, list...), want...)
		d.mix(list)
	}
	gives(t, holding(t, 4096, want...), want...)
	slices.Reverse(list)
	gives(t, holding(t, 4096, list...), want...)
}

// calls are all that is done to a queue of the small ones: events of three numbers, at times that come twice and at wrong ones.
func calls(t *testing.T) []func(p pair) pair {
	t.Helper()
	var out []func(p pair) pair
	for _, e := range []api.Event{ev(1, 0, 0, 1), ev(1, 0, 1, 1), ev(0, 1, 0, 2), ev(2, 0, 0, 2), ev(-1, 0, 0, 2), ev(most, 0, 1, 1)} {
		out = append(out, func(p pair) pair {
			p.put(t, e)
			return p
		})
	}
	for _, c := range [][2]int{{0, 1}, {1, 1}, {0, 2}} {
		out = append(out, func(p pair) pair {
			p.cancel(t, c[0], c[1])
			return p
		})
	}
	return append(out, func(p pair) pair {
		p.take(t)
		return p
	})
}

// Ev1: all short lists of calls, held against the words of the chapter. Each goes on from a copy of what was there.
func TestEv1AllShort(t *testing.T) {
	list, count := calls(t), 0
	var from func(p pair, left int)
	from = func(p pair, left int) {
		p.sameAll(t)
		count++
		if left == 0 {
			return
		}
		for _, call := range list {
			from(call(p.copied()), left-1)
		}
		p.sameAll(t)
	}
	for limit := 1; limit < 4; limit++ {
		from(newPair(t, limit), 4)
	}
	if count < 30000 {
		t.Errorf("only %d", count)
	}
}

// Ev1: long lists of calls by chance on a queue and its copies.
func TestEv1MadeUp(t *testing.T) {
	d := dice(7)
	seen := map[api.Errno]int{}
	cancelled := 0
	for i := range 600 {
		limit := []int{1, 2, 5, 20, 100}[i%5]
		span := []int{2, 10, 1000}[i%3]
		all := []pair{newPair(t, limit)}
		for range 300 {
			p := all[d.roll(len(all))]
			switch d.roll(8) {
			case 0, 1, 2, 3:
				e := ev(d.roll(span), d.roll(3), d.roll(3), d.roll(2*limit))
				if d.roll(20) == 0 {
					e.Time = []int{-1, least, api.MaxTime, api.MaxTime + 1, most}[d.roll(5)]
				}
				e.Anti = d.roll(30) == 0
				seen[p.put(t, e)]++
			case 4, 5:
				p.take(t)
			case 6:
				if p.cancel(t, d.roll(3), d.roll(2*limit)) {
					cancelled++
				}
			case 7:
				all[d.roll(len(all))] = p.copied()
				if len(all) < 4 {
					all = append(all, p.copied())
				}
			}
		}
		for _, p := range all {
			p.sameAll(t)
		}
	}
	if seen[api.OK] < 1000 || seen[api.ErrArg] < 1000 || seen[api.ErrTime] < 500 || seen[api.ErrQueue] < 1000 || cancelled < 1000 {
		t.Error(seen, cancelled)
	}
}
