package consts_test

import (
	"maps"
	"silkworm/api"
	"silkworm/consts"
	"strconv"
	"strings"
	"testing"
)

// oddNames is names that no source has, among some that one has.
func oddNames() []string {
	return []string{"N", "n", "N1", "", " ", "N ", "\x00", "\xff\xfe", "é", "module", "a.b[2]", "0", strings.Repeat("n", 64), strings.Repeat("n", 65), strings.Repeat("n", 1<<16)}
}

func TestCn1NewHasNoNames(t *testing.T) {
	s := consts.New()
	for _, name := range oddNames() {
		getIs(t, s, name, 0, false)
	}
	if s == consts.New() {
		t.Error("New gives one scope twice")
	}
}

func TestCn1Set(t *testing.T) {
	s := consts.New()
	for i, name := range oddNames() {
		if e := s.Set(name, i-3); e != api.OK {
			t.Errorf("Set(%.70q): %d", name, e)
		}
		for k, other := range oddNames() {
			if k <= i {
				getIs(t, s, other, k-3, true)
			} else {
				getIs(t, s, other, 0, false)
			}
		}
	}
	for i, name := range oddNames() {
		s.Set(name, 7*i)
		getIs(t, s, name, 7*i, true)
		s.Set(name, 0)
		getIs(t, s, name, 0, true)
		told(t, s, api.Expr{Op: api.OpName, Name: name}, 0, api.Diag{})
		s.Set(name, 7*i)
	}
	for i, name := range oddNames() {
		getIs(t, s, name, 7*i, true)
		told(t, s, api.Expr{Op: api.OpName, Name: name}, 7*i, api.Diag{})
	}
}

func TestCn1SetBounds(t *testing.T) {
	for _, n := range append(edges(), least, most) {
		s := consts.New()
		if e := s.Set("N", n); e != api.OK {
			t.Errorf("Set(%d): %d", n, e)
		}
		getIs(t, s, "N", n, true)
		told(t, s, name("N", 4), n, api.Diag{})
	}
	for _, n := range []int{least - 1, least - 2, -1 << 32, -1<<32 + 5, -1 << 62, -1 << 63, most + 1, most + 2, 1<<32 - 1, 1 << 32, 1<<32 + 5, 1 << 62, 1<<63 - 1} {
		s := scopeWith(t, map[string]int{"N": 5})
		for _, name := range []string{"N", "M", ""} {
			if e := s.Set(name, n); e != api.ErrArg {
				t.Errorf("Set(%q, %d): %d", name, n, e)
			}
		}
		getIs(t, s, "N", 5, true)
		getIs(t, s, "M", 0, false)
		getIs(t, s, "", 0, false)
		told(t, s, name("M", 2), 0, api.Diag{At: 2, Code: api.ErrWord})
		in := s.Within()
		if e := in.Set("N", n); e != api.ErrArg {
			t.Errorf("Set(%d) within: %d", n, e)
		}
		getIs(t, in, "N", 5, true)
	}
}

func TestCn1Within(t *testing.T) {
	s := scopeWith(t, map[string]int{"N": 3, "M": 7})
	in := s.Within()
	if in == nil || in == s || in == s.Within() {
		t.Fatal("Within gives no other scope")
	}
	getIs(t, in, "N", 3, true)
	getIs(t, in, "M", 7, true)
	getIs(t, in, "K", 0, false)
	in.Set("N", 4)
	in.Set("K", 5)
	s.Set("M", 8)
	s.Set("H", 9)
	getIs(t, s, "N", 3, true)
	getIs(t, s, "M", 8, true)
	getIs(t, s, "K", 0, false)
	getIs(t, s, "H", 9, true)
	getIs(t, in, "N", 4, true)
	getIs(t, in, "M", 7, true)
	getIs(t, in, "K", 5, true)
	getIs(t, in, "H", 0, false)
	told(t, s, exprOf(t, "N + M"), 11, api.Diag{})
	told(t, in, exprOf(t, "N + M"), 11, api.Diag{})
	told(t, in, exprOf(t, "N + K"), 9, api.Diag{})
	told(t, s, exprOf(t, "N + K"), 0, api.Diag{At: 4, Code: api.ErrWord})
	told(t, in, exprOf(t, "H + N"), 0, api.Diag{At: 0, Code: api.ErrWord})
	getIs(t, s.Within(), "H", 9, true)
	getIs(t, in.Within(), "H", 0, false)
}

// A scope within one that has no names yet does not know of those that it gets.
func TestCn1WithinAnEmptyScope(t *testing.T) {
	s := consts.New()
	in := s.Within()
	s.Set("N", 1)
	getIs(t, in, "N", 0, false)
	in.Set("N", 2)
	in.Set("M", 3)
	getIs(t, s, "N", 1, true)
	getIs(t, s, "M", 0, false)
}

func TestCn1ManyWithinOneAnother(t *testing.T) {
	all := []*consts.Scope{consts.New()}
	for i := range 300 {
		in := all[i].Within()
		if e := in.Set("D", i+1); e != api.OK {
			t.Fatal(e)
		}
		in.Set("D"+strconv.Itoa(i), i)
		all = append(all, in)
	}
	all[0].Set("D", 1000)
	for i, s := range all[1:] {
		getIs(t, s, "D", i+1, true)
		for k := range 300 {
			if n, ok := s.Get("D" + strconv.Itoa(k)); ok != (k <= i) || ok && n != k {
				t.Fatalf("scope %d: D%d is %d %v", i+1, k, n, ok)
			}
		}
	}
}

func TestCn1ManyNames(t *testing.T) {
	s := consts.New()
	for i := range 1 << 17 {
		s.Set(strconv.Itoa(i), -i)
	}
	in := s.Within()
	for i := range 1 << 17 {
		in.Set(strconv.Itoa(i), i)
	}
	for i := range 1 << 17 {
		getIs(t, s, strconv.Itoa(i), -i, true)
		getIs(t, in, strconv.Itoa(i), i, true)
	}
}

// Names set, set again and asked for, in scopes and scopes within them, in whatever order: as plain maps would tell.
func TestCn1AnyOrder(t *testing.T) {
	d := dice(61)
	names := []string{"A", "B", "C", "D", "", "A.B"}
	for range 300 {
		scopes, model := []*consts.Scope{consts.New()}, []map[string]int{{}}
		for range 200 {
			i, name := d.roll(len(scopes)), names[d.roll(len(names))]
			switch d.roll(10) {
			case 0:
				scopes, model = append(scopes, scopes[i].Within()), append(model, maps.Clone(model[i]))
			case 1:
				scopes, model = append(scopes, consts.New()), append(model, map[string]int{})
			case 2:
				if e := scopes[i].Set(name, []int{most + 1, least - 1}[d.roll(2)]); e != api.ErrArg {
					t.Fatal(e)
				}
			case 3, 4, 5:
				n := edges()[d.roll(len(edges()))]
				if e := scopes[i].Set(name, n); e != api.OK {
					t.Fatal(e)
				}
				model[i][name] = n
			default:
				n, ok := model[i][name]
				getIs(t, scopes[i], name, n, ok)
			}
		}
		for i, s := range scopes {
			for _, name := range names {
				n, ok := model[i][name]
				getIs(t, s, name, n, ok)
			}
		}
	}
}

// notGiven is scopes that New and Within did not give.
func notGiven(t *testing.T) map[string]*consts.Scope {
	t.Helper()
	var zero consts.Scope
	copied := *scopeWith(t, given())
	inside := *scopeWith(t, given()).Within()
	return map[string]*consts.Scope{"nil": nil, "new": new(consts.Scope), "zero": &zero, "literal": {}, "a copy": &copied, "a copy of one within": &inside}
}

// R1: of what is no scope zero values are told, and nothing stays there.
func TestCn1NotGiven(t *testing.T) {
	for what, s := range notGiven(t) {
		for _, n := range []int{0, 3, most, least, most + 1, -1 << 63} {
			for _, name := range []string{"N", "K", ""} {
				if e := s.Set(name, n); e != api.ErrArg {
					t.Errorf("%s: Set(%q, %d): %d", what, name, n, e)
				}
				getIs(t, s, name, 0, false)
			}
		}
		if in := s.Within(); in != nil {
			t.Errorf("%s: a scope within", what)
		}
		for _, x := range []api.Expr{{}, bits("1", 5), name("N", 5), name("K", 5), bits("x", 5), node(api.OpAdd, 5, bits("1", 6), bits("1", 7)), node(api.OpCat, 5), node(99, 5)} {
			told(t, s, x, 0, api.Diag{At: 0, Code: api.ErrArg})
		}
	}
}

// A copy that may not be asked has nothing to do with the scope that it is of.
func TestCn1CopyOfAScope(t *testing.T) {
	s := scopeWith(t, map[string]int{"N": 3})
	c := *s
	c.Set("N", 4)
	c.Set("M", 4)
	getIs(t, s, "N", 3, true)
	getIs(t, s, "M", 0, false)
}
