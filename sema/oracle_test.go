package sema_test

import (
	"maps"
	"silkworm/api"
	"slices"
	"testing"
)

// The chapter's words once more: all reasons are told, one behind the other, and the first one counts.

type teller struct {
	modules map[string]api.Module
	reasons []api.Diag
}

func (o *teller) say(holds bool, at int, code api.Errno) {
	if holds {
		o.reasons = append(o.reasons, api.Diag{At: at, Code: code})
	}
}

// frame is a scope.
type frame struct {
	kinds  map[string]string
	driven []string
}

func expected(l []api.Module) []api.Diag {
	o := teller{modules: map[string]api.Module{}}
	for _, m := range l {
		_, there := o.modules[m.Name]
		o.say(there, m.At, api.ErrTwice)
		o.modules[m.Name] = m
	}
	for _, m := range l {
		f := frame{kinds: map[string]string{}}
		for _, p := range m.Params {
			o.name(f, p.Name, "constant", p.At)
		}
		for _, p := range m.Ports {
			o.name(f, p.Name, kindOfPort(p), p.At)
		}
		o.scope([]*frame{&f}, m.Items)
	}
	return o.reasons[:min(len(o.reasons), 1)]
}

func kindOfPort(p api.Port) string {
	return map[[2]bool]string{{false, false}: "input", {true, false}: "wire", {true, true}: "reg"}[[2]bool{p.Out, p.Reg}]
}

func (o *teller) name(f frame, name, kind string, at int) {
	o.say(f.kinds[name] != "", at, api.ErrTwice)
	f.kinds[name] = kind
}

// scope is told with those around it, the innermost first.
func (o *teller) scope(fs []*frame, l []api.Item) {
	for _, x := range l {
		kind := map[int]string{api.ItWire: "wire", api.ItReg: "reg", api.ItLocal: "constant", api.ItInst: "instance", api.ItFor: "label"}[x.Kind]
		for _, name := range append(slices.Clone(x.Names), x.Name) {
			if kind != "" && name != "" {
				o.name(*fs[0], name, kind, x.At)
			}
		}
	}
	for _, x := range l {
		switch x.Kind {
		case api.ItAssign:
			o.target(fs, x.Name, "wire", x.At, x.At)
			o.drive(fs, x.Name, x.At)
			o.value(fs, x.Value)
		case api.ItComb, api.ItClock:
			o.always(fs, x)
		case api.ItInst:
			o.instance(fs, x)
		case api.ItFor:
			in := frame{kinds: map[string]string{x.Var: "constant"}}
			o.scope(append([]*frame{&in}, fs...), x.Items)
		}
	}
}

func kindOf(fs []*frame, name string) string {
	for _, f := range fs {
		if kind, there := f.kinds[name]; there {
			return kind
		}
	}
	return ""
}

func (o *teller) target(fs []*frame, name, kind string, wordAt, at int) {
	o.say(kindOf(fs, name) == "", wordAt, api.ErrWord)
	o.say(fs[0].kinds[name] != kind, at, api.ErrTarget)
}

func (o *teller) drive(fs []*frame, name string, at int) {
	o.say(slices.Contains(fs[0].driven, name), at, api.ErrDrive)
	fs[0].driven = append(fs[0].driven, name)
}

// named is the parts of an expression that are looked at by their names.
func named(x api.Expr) (list []api.Expr) {
	if x.Op == api.OpName || x.Op == api.OpBit || x.Op == api.OpPart {
		list = append(list, x)
	}
	if x.Op == api.OpPart {
		return list
	}
	for _, k := range x.Kids {
		list = append(list, named(k)...)
	}
	return list
}

func (o *teller) value(fs []*frame, x api.Expr) {
	for _, n := range named(x) {
		o.say(!slices.Contains([]string{"input", "wire", "reg", "constant"}, kindOf(fs, n.Name)), n.At, api.ErrWord)
	}
}

func (o *teller) always(fs []*frame, x api.Item) {
	clocked := x.Kind == api.ItClock
	o.say(clocked && !slices.Contains([]string{"input", "wire", "reg"}, kindOf(fs, x.Name)), x.At, api.ErrWord)
	targets := map[string]int{}
	o.stmts(fs, x.Body, clocked, targets)
	for name := range targets {
		o.say(slices.Contains(fs[0].driven, name), x.At, api.ErrDrive)
	}
	for name := range targets {
		fs[0].driven = append(fs[0].driven, name)
	}
	if !clocked {
		sure := o.sure(x.Body, map[string]int{}, targets)
		o.say(len(sure) != len(targets), x.At, api.ErrLatch)
	}
}

func (o *teller) stmts(fs []*frame, l []api.Stmt, clocked bool, targets map[string]int) {
	for _, x := range l {
		if x.Kind == api.StSet || x.Kind == api.StDefer {
			o.say(x.Kind == api.StDefer && !clocked || x.Kind == api.StSet && clocked, x.At, api.ErrBlock)
			o.target(fs, x.Target, "reg", x.At, x.At)
			targets[x.Target]++
		}
		o.value(fs, x.Value)
		o.stmts(fs, x.Body, clocked, targets)
		o.stmts(fs, x.Else, clocked, targets)
		for _, a := range x.Arms {
			o.value(fs, a.Label)
			o.stmts(fs, a.Body, clocked, targets)
		}
	}
}

// sure is what is sure behind statements, by what is so ahead of them.
func (o *teller) sure(l []api.Stmt, ahead, targets map[string]int) map[string]int {
	sure := maps.Clone(ahead)
	for _, x := range l {
		o.reads(x.Value, sure, targets)
		switch x.Kind {
		case api.StSet, api.StDefer:
			sure[x.Target] = 1
		case api.StIf:
			yes := o.sure(x.Body, sure, targets)
			sure = both(yes, o.sure(x.Else, sure, targets))
		case api.StCase:
			var behind []map[string]int
			whole := false
			for _, a := range x.Arms {
				o.reads(a.Label, sure, targets)
				behind = append(behind, o.sure(a.Body, sure, targets))
				whole = whole || a.Default
			}
			if !whole {
				behind = append(behind, sure)
			}
			sure = behind[0]
			for _, b := range behind {
				sure = both(sure, b)
			}
		}
	}
	return sure
}

func both(a, b map[string]int) map[string]int {
	c := map[string]int{}
	for name := range a {
		if b[name] > 0 {
			c[name] = 1
		}
	}
	return c
}

func (o *teller) reads(x api.Expr, sure, targets map[string]int) {
	for _, n := range named(x) {
		o.say(targets[n.Name] > 0 && sure[n.Name] == 0, n.At, api.ErrLatch)
	}
}

func (o *teller) instance(fs []*frame, x api.Item) {
	m, there := o.modules[x.Module]
	o.say(!there, x.At, api.ErrModule)
	for i, b := range x.Params {
		has := slices.ContainsFunc(m.Params, func(p api.Bind) bool { return p.Name == b.Name })
		o.say(!has || boundAhead(x.Params[:i], b.Name), b.At, api.ErrWord)
	}
	for i, b := range x.Ports {
		at := slices.IndexFunc(m.Ports, func(p api.Port) bool { return p.Name == b.Name })
		o.say(at < 0 || boundAhead(x.Ports[:i], b.Name), b.At, api.ErrPort)
		switch {
		case at >= 0 && !m.Ports[at].Out:
			o.value(fs, b.Value)
		case at >= 0:
			o.say(b.Value.Op != api.OpName, b.At, api.ErrTarget)
			o.target(fs, b.Value.Name, "wire", b.Value.At, b.At)
			o.drive(fs, b.Value.Name, b.At)
		}
	}
}

func boundAhead(l []api.Bind, name string) bool {
	return slices.ContainsFunc(l, func(b api.Bind) bool { return b.Name == name })
}

// Made-up sources, without and with wrong turns.
func TestSm1AnySource(t *testing.T) {
	d := dice(7)
	counts := map[api.Errno]int{}
	for i := range 12000 {
		wrong := []int{0, 2, 10, 40}[i%4]
		source := makeSource(&d, wrong)
		m, ok := readable(source)
		if !ok {
			t.Fatalf("%s", source)
		}
		want := expected(m)
		if wrong == 0 && len(want) > 0 {
			t.Fatalf("%s: made without a wrong turn, and refused: %v", source, want)
		}
		checkIs(t, source, m, want)
		counts[codeOf(want)]++
	}
	for code, least := range map[api.Errno]int{api.OK: 5000, api.ErrTwice: 100, api.ErrWord: 1000, api.ErrTarget: 500, api.ErrDrive: 300, api.ErrBlock: 300, api.ErrLatch: 70, api.ErrModule: 200, api.ErrPort: 300} {
		if counts[code] < least {
			t.Errorf("only %d with the code %d", counts[code], code)
		}
	}
}
