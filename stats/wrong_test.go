package stats_test

import (
	"silkworm/api"
	"silkworm/stats"
	"silkworm/wave"
	"slices"
	"testing"
)

// What layer 18 refuses has no numbers, even where the fault is behind the horizon, or in another net.
func TestSt1WrongWaves(t *testing.T) {
	for _, w := range []api.Wave{
		{Names: []string{"a"}}, {Wides: []int{1}}, {First: []string{"0"}}, {Names: []string{"a"}, Wides: []int{1}}, {List: []api.Change{{}}}, {List: []api.Change{{Value: "0"}}},
		{Names: []string{"a", "b"}, Wides: []int{1, 1}, First: []string{"0"}}, {Names: []string{""}, Wides: []int{0}, First: []string{""}}, {Names: []string{"a"}, Wides: []int{2}, First: []string{"0"}},
		waveOf("a=2"), waveOf("a=X"), waveOf("\x7f=0"), waveOf("a\nb=0"), waveOf("é=0"), waveOf("a=0 b=y"),
	} {
		refusesAll(t, w)
	}
	for _, text := range []string{
		"1 2 1", "1 -1 1", "-1 0 1", "4611686018427387904 0 1", "2 0 1, 1 0 0", "2 1 01, 2 0 1", "2 0 1, 2 0 0", "1 0 x", "0 1 00", "1 0 1, 2 0 1", "1 0 01", "1 1 1", "1 0 2", "1 0 é", "1 0 1, 2 0 0, 9 1 00", "1 0 1, 9223372036854775807 0 0",
	} {
		refusesAll(t, waveOf("a=x b=00 | "+text))
	}
}

// refusesAll tells that a waveform is refused, whatever is asked of it.
func refusesAll(t *testing.T, w api.Wave) {
	t.Helper()
	if wave.Check(w) == api.OK {
		t.Fatalf("a test that may be: %s", brief(w))
	}
	for _, net := range []int{least, -2, -1, 0, 1, 2, most} {
		for _, horizon := range []int{least, -1, 0, 1, 8, api.MaxTime, api.MaxTime + 1, most} {
			refuses(t, w, net, horizon)
		}
	}
}

func TestSt1WrongNets(t *testing.T) {
	for _, horizon := range []int{0, 1, 10, api.MaxTime} {
		for _, net := range []int{-2, -3, least, 1, 2, 1 << 32, most} {
			refuses(t, at(1, 3, 7), net, horizon)
		}
		for _, net := range []int{least, -2, 0, 1, most} {
			refuses(t, api.Wave{}, net, horizon)
		}
		w := waveOf("a=0 b=1 c=x | 1 0 1, 1 2 0")
		for net := -4; net < 8; net++ {
			if net >= -1 && net < 3 {
				tells(t, w, net, horizon, meant(w, net, horizon))
			} else {
				refuses(t, w, net, horizon)
			}
		}
	}
}

func TestSt1WrongHorizons(t *testing.T) {
	for _, w := range []api.Wave{{}, waveOf("a=0"), at(0, 3), at(api.MaxTime)} {
		for _, horizon := range []int{-1, -2, least, api.MaxTime + 1, api.MaxTime + 2, 1 << 62, most} {
			for net := -1; net < len(w.Names); net++ {
				refuses(t, w, net, horizon)
			}
		}
	}
}

// room is a list with more behind its end, of which nobody may know.
func room[T any](list []T, more ...T) []T {
	return slices.Concat(list, more)[:len(list)]
}

func TestR3HandedIn(t *testing.T) {
	plainly := waveOf("a=x b=00 | 1 0 1, 3 0 0, 3 1 0x")
	for _, more := range []api.Change{{Time: 5, Value: "1"}, {Time: -1, Net: -1}} {
		w := api.Wave{Names: room(plainly.Names, "c"), Wides: room(plainly.Wides, 0), First: room(plainly.First, "2"), List: room(plainly.List, more)}
		before := copied(w)
		for net := -1; net < 2; net++ {
			for horizon := range 7 {
				tells(t, w, net, horizon, meant(plainly, net, horizon))
			}
		}
		refuses(t, w, 2, 6)
		if !slices.Equal(w.Names, before.Names) || !slices.Equal(w.Wides, before.Wides) || !slices.Equal(w.First, before.First) || !slices.Equal(w.List, before.List) {
			t.Errorf("%s, not %s", brief(w), brief(before))
		}
		if w.Names[:3][2] != "c" || w.Wides[:3][2] != 0 || w.First[:3][2] != "2" || w.List[:4][3] != more {
			t.Errorf("%s", brief(w))
		}
	}
}

// R3: nil and the empty list are the same.
func TestR3NilAndEmpty(t *testing.T) {
	want := stats.Stats{Rate: nan, Mean: nan, Spread: nan, Least: inf, Most: below}
	for _, w := range []api.Wave{{}, {Names: []string{}, Wides: []int{}, First: []string{}, List: []api.Change{}}, {Wides: []int{}}, {List: []api.Change{}}} {
		tells(t, w, -1, 0, want)
		refuses(t, w, 0, 0)
	}
}

// R4: the same calls have the same answers, whatever was called in between.
func TestR4Again(t *testing.T) {
	w, bad := waveOf("a=x b=00 | 1 0 1, 3 0 0, 3 1 0x"), waveOf("a=x b=00 | 1 0 x")
	for range 3 {
		tells(t, w, -1, 4, meant(w, -1, 4))
		refuses(t, bad, -1, 4)
		tells(t, w, 1, 4, meant(w, 1, 4))
		refuses(t, w, 2, 4)
		comesTo(t, 1, 0, inf)
		comesTo(t, 0, 0, nan)
		stands(t, nan, inf, 1)
		mills(t, nan, 0, 1)
		mills(t, 0.5, 500, 0)
	}
}
