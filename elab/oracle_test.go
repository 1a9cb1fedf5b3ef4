package elab_test

import (
	"reflect"
	"silkworm/api"
	"silkworm/consts"
	"silkworm/elab"
	"silkworm/sema"
	"slices"
	"strconv"
	"strings"
	"testing"
)

// The chapter's words once more: a design is told as events, one behind the other, by names alone; who listens counts them, and tells where there are too many, which place each net has, and what drives it.

type event struct {
	what   string // reason, net, process, instance, turn
	at     int
	code   api.Errno // of a reason
	count  int       // of an instance how many it is within, itself counted; of a turn which one of its for it is
	net    api.Net
	proc   api.Proc
	target string   // of an assign
	clock  string   // of an always with a clock
	drives []string // of a process
}

// enough ends the telling.
type enough struct{}

type teller struct {
	modules []api.Module
	tell    func(event)
}

// frame is a scope: what its names stand for.
type frame struct {
	path   string
	nets   map[string]api.Net
	consts map[string]int
}

// frames is a scope and those around it, the outermost first.
type frames []frame

func (fs frames) last() frame { return fs[len(fs)-1] }

// within is a further frame.
func (fs frames) within(path string) frames {
	return append(slices.Clone(fs), frame{path: path, nets: map[string]api.Net{}, consts: map[string]int{}})
}

// numbers is the constants alone: those of inner scopes in the place of those around.
func (fs frames) numbers() *consts.Scope {
	s := consts.New()
	for _, f := range fs {
		for name, n := range f.consts {
			s.Set(name, n)
		}
	}
	return s
}

// lookUp is the net or the constant that a name stands for.
func (fs frames) lookUp(name string) (n api.Net, number int, isNet bool) {
	for _, f := range slices.Backward(fs) {
		if n, isNet = f.nets[name]; isNet {
			return n, 0, true
		}
		if number, there := f.consts[name]; there {
			return api.Net{}, number, false
		}
	}
	panic("no name " + name)
}

func (o *teller) refuse(holds bool, at int, code api.Errno) {
	if holds {
		o.tell(event{what: "reason", at: at, code: code})
	}
}

func (o *teller) eval(s *consts.Scope, x api.Expr) int {
	n, why := s.Eval(x)
	o.refuse(why.Code != api.OK, why.At, why.Code)
	return n
}

func (o *teller) net(fs frames, name string, ranged bool, hi, lo api.Expr, at int) {
	wide := 1
	if ranged {
		s := fs.numbers()
		high, low := o.eval(s, hi), o.eval(s, lo)
		o.refuse(!(0 == low && low <= high && high < api.MaxWide), at, api.ErrRange)
		wide = high - low + 1
	}
	n := api.Net{Name: fs.last().path + name, Wide: wide}
	fs.last().nets[name] = n
	o.tell(event{what: "net", at: at, net: n})
}

func (o *teller) named(name string) *api.Module {
	if at := slices.IndexFunc(o.modules, func(m api.Module) bool { return m.Name == name }); at >= 0 {
		return &o.modules[at]
	}
	return nil
}

// module tells one in its place: an instance of the scope around, or the top (around is nil).
func (o *teller) module(m *api.Module, inst api.Item, around frames, deep int) {
	path := ""
	if around != nil {
		path = around.last().path + inst.Name + "."
	}
	fs := frames{}.within(path)
	for _, p := range m.Params {
		at := slices.IndexFunc(inst.Params, func(b api.Bind) bool { return b.Name == p.Name })
		if at >= 0 {
			fs.last().consts[p.Name] = o.eval(around.numbers(), inst.Params[at].Value)
		} else {
			fs.last().consts[p.Name] = o.eval(fs.numbers(), p.Value)
		}
	}
	for _, p := range m.Ports {
		o.net(fs, p.Name, p.Ranged, p.Hi, p.Lo, p.At)
	}
	for _, p := range m.Ports {
		for _, b := range inst.Ports {
			if b.Name == p.Name {
				o.bind(p, b, fs, around, inst.At)
			}
		}
	}
	o.items(fs, m.Items, deep)
}

func (o *teller) bind(p api.Port, b api.Bind, fs, around frames, at int) {
	inner := fs.last().nets[p.Name].Name
	if p.Out {
		outer := around.last().nets[b.Value.Name].Name
		o.process(api.Proc{Kind: api.ItAssign, Value: api.Expr{Op: api.OpName, Name: inner, At: b.At}}, outer, "", at, outer)
	} else {
		o.process(api.Proc{Kind: api.ItAssign, Value: o.expr(around, b.Value)}, inner, "", at, inner)
	}
}

func (o *teller) process(p api.Proc, target, clock string, at int, drives ...string) {
	o.tell(event{what: "process", at: at, proc: p, target: target, clock: clock, drives: drives})
}

func (o *teller) items(fs frames, l []api.Item, deep int) {
	for _, x := range l {
		switch x.Kind {
		case api.ItLocal:
			fs.last().consts[x.Name] = o.eval(fs.numbers(), x.Value)
		case api.ItWire, api.ItReg:
			for _, name := range x.Names {
				o.net(fs, name, x.Ranged, x.Hi, x.Lo, x.At)
			}
		}
	}
	for _, x := range l {
		switch x.Kind {
		case api.ItAssign:
			p := api.Proc{Kind: api.ItAssign}
			if x.Timed {
				p.Delay = o.eval(fs.numbers(), x.Delay)
				o.refuse(p.Delay < 1 || p.Delay > 1<<20, x.At, api.ErrRange)
			}
			p.Value = o.expr(fs, x.Value)
			target := fs.last().nets[x.Name].Name
			o.process(p, target, "", x.At, target)
		case api.ItComb, api.ItClock:
			o.always(fs, x)
		case api.ItInst:
			o.tell(event{what: "instance", at: x.At, count: deep + 1})
			o.module(o.named(x.Module), x, fs, deep+1)
		case api.ItFor:
			o.loop(fs, x, deep)
		}
	}
}

func (o *teller) loop(fs frames, x api.Item, deep int) {
	n := o.eval(fs.numbers(), x.Value)
	for count := 1; ; count++ {
		head := fs.numbers()
		head.Set(x.Var, n)
		if o.eval(head, x.While) == 0 {
			return
		}
		o.tell(event{what: "turn", at: x.At, count: count})
		in := fs.within(fs.last().path + x.Name + "[" + strconv.Itoa(n) + "].")
		in.last().consts[x.Var] = n
		o.items(in, x.Items, deep)
		n = o.eval(head, x.Next)
	}
}

func (o *teller) always(fs frames, x api.Item) {
	var drives []string
	p := api.Proc{Kind: x.Kind, Body: o.stmts(fs, x.Body, &drives)}
	clock := ""
	if x.Kind == api.ItClock {
		n, _, _ := fs.lookUp(x.Name)
		clock = n.Name
	}
	o.process(p, "", clock, x.At, drives...)
}

func (o *teller) stmts(fs frames, l []api.Stmt, drives *[]string) (out []api.Stmt) {
	for _, x := range l {
		if x.Target != "" {
			x.Target = fs.last().nets[x.Target].Name
			*drives = append(*drives, x.Target)
		}
		x.Value = o.expr(fs, x.Value)
		x.Body = o.stmts(fs, x.Body, drives)
		x.Else = o.stmts(fs, x.Else, drives)
		var arms []api.Arm
		for _, a := range x.Arms {
			if !a.Default {
				a.Label = o.expr(fs, a.Label)
			}
			a.Body = o.stmts(fs, a.Body, drives)
			arms = append(arms, a)
		}
		x.Arms = arms
		out = append(out, x)
	}
	return out
}

// expr tells why an expression is refused, part by part, and then what it becomes.
func (o *teller) expr(fs frames, x api.Expr) api.Expr {
	for _, part := range partsInOrder(x) {
		switch part.Op {
		case api.OpBit:
			_, _, isNet := fs.lookUp(part.Name)
			o.refuse(!isNet, part.At, api.ErrConst)
		case api.OpPart:
			n, _, isNet := fs.lookUp(part.Name)
			o.refuse(!isNet, part.At, api.ErrConst)
			hi, lo := o.eval(fs.numbers(), part.Kids[0]), o.eval(fs.numbers(), part.Kids[1])
			o.refuse(!(0 <= lo && lo <= hi && hi < n.Wide), part.At, api.ErrIndex)
		case api.OpCat:
			o.refuse(widthIn(fs, part) > 256, part.At, api.ErrSize)
		}
	}
	return replaced(fs, x)
}

func partsInOrder(x api.Expr) (list []api.Expr) {
	if x.Op != api.OpPart {
		for _, k := range x.Kids {
			list = append(list, partsInOrder(k)...)
		}
	}
	return append(list, x)
}

func widthIn(fs frames, x api.Expr) int {
	kid := func(i int) int { return widthIn(fs, x.Kids[i]) }
	switch x.Op {
	case api.OpNum:
		return len(x.Value)
	case api.OpName:
		if n, _, isNet := fs.lookUp(x.Name); isNet {
			return n.Wide
		}
		return 32
	case api.OpPart:
		hi, _ := fs.numbers().Eval(x.Kids[0])
		lo, _ := fs.numbers().Eval(x.Kids[1])
		return hi - lo + 1
	case api.OpCat:
		sum := 0
		for i := range x.Kids {
			sum += kid(i)
		}
		return sum
	case api.OpNot, api.OpNeg, api.OpShl, api.OpShr:
		return kid(0)
	case api.OpAdd, api.OpSub, api.OpAnd, api.OpOr, api.OpXor:
		return max(kid(0), kid(1))
	case api.OpCond:
		return max(kid(1), kid(2))
	}
	return 1
}

func replaced(fs frames, x api.Expr) api.Expr {
	number := func(n, at int) api.Expr {
		s := strconv.FormatUint(uint64(uint32(n)), 2)
		return api.Expr{Op: api.OpNum, Value: strings.Repeat("0", 32-len(s)) + s, Plain: true, At: at}
	}
	var kids []api.Expr
	for _, k := range x.Kids {
		if x.Op == api.OpPart {
			n, _ := fs.numbers().Eval(k)
			kids = append(kids, number(n, k.At))
		} else {
			kids = append(kids, replaced(fs, k))
		}
	}
	x.Kids = kids
	if x.Name != "" {
		n, c, isNet := fs.lookUp(x.Name)
		if !isNet {
			return number(c, x.At)
		}
		x.Name = n.Name
	}
	return x
}

// listener makes a design of what it is told.
type listener struct {
	flat             api.Flat
	drivers          map[string]api.Proc
	targets, clocks  []string
	instances, turns int
	reasons          []api.Diag
}

func (h *listener) hear(e event) {
	code := api.OK
	switch {
	case e.what == "reason":
		code = e.code
	case e.what == "instance" && e.count > 32:
		code = api.ErrModule
	case e.what == "net" && len(h.flat.Nets) >= 512, e.what == "process" && len(h.flat.Procs) >= 256, e.what == "instance" && h.instances >= 256, e.what == "turn" && (e.count > 64 || h.turns >= 4096):
		code = api.ErrSize
	}
	if code != api.OK {
		h.reasons = []api.Diag{{At: e.at, Code: code}}
		panic(enough{})
	}
	switch e.what {
	case "net":
		h.flat.Nets = append(h.flat.Nets, e.net)
	case "process":
		h.flat.Procs = append(h.flat.Procs, e.proc)
		h.targets, h.clocks = append(h.targets, e.target), append(h.clocks, e.clock)
		for _, name := range e.drives {
			h.drivers[name] = e.proc
		}
	case "instance":
		h.instances++
	case "turn":
		h.turns++
	}
}

// settle puts places of nets where names are, and kinds.
func (h *listener) settle(top *api.Module) {
	place := map[string]int{}
	for i := range h.flat.Nets {
		n := &h.flat.Nets[i]
		place[n.Name] = i
		p, driven := h.drivers[n.Name]
		switch {
		case i < len(top.Ports) && !top.Ports[i].Out:
			n.Kind = api.NetIn
		case !driven:
			n.Kind = api.NetOpen
		case p.Kind == api.ItAssign && p.Delay > 0:
			n.Kind = api.NetDelay
		default:
			n.Kind = map[int]int{api.ItAssign: api.NetWire, api.ItComb: api.NetComb, api.ItClock: api.NetReg}[p.Kind]
		}
	}
	for i := range h.flat.Procs {
		p := &h.flat.Procs[i]
		p.Clock = -1
		if h.clocks[i] != "" {
			p.Clock = place[h.clocks[i]]
		}
		if p.Kind == api.ItAssign {
			p.Target = place[h.targets[i]]
		}
	}
	h.flat.Ports = len(top.Ports)
}

func expected(l []api.Module, top string) (f api.Flat, why []api.Diag) {
	if why := sema.Check(l); len(why) > 0 {
		return api.Flat{}, why
	}
	h := listener{drivers: map[string]api.Proc{}}
	o := teller{modules: l, tell: h.hear}
	m := o.named(top)
	if m == nil {
		return api.Flat{}, []api.Diag{{Code: api.ErrModule}}
	}
	defer func() {
		if r := recover(); r != nil {
			if _, ok := r.(enough); !ok {
				panic(r)
			}
			f, why = api.Flat{}, h.reasons
		}
	}()
	o.module(m, api.Item{}, nil, 0)
	h.settle(m)
	return h.flat, nil
}

// buildIs tells that what is built is what is expected: the code of the reason, if there is one.
func buildIs(t *testing.T, source string, l []api.Module, top string) (api.Flat, api.Errno) {
	t.Helper()
	f, why := elab.Build(l, top)
	want, wantWhy := expected(l, top)
	if len(why) != len(wantWhy) || len(why) > 0 && why[0] != wantWhy[0] {
		t.Fatalf("%s\ntop %s: %v, not %v", source, top, why, wantWhy)
	}
	if !reflect.DeepEqual(f, want) {
		t.Fatalf("%s\ntop %s:\n%s\n%s\nnot\n%s\n%s\n", source, top, netsText(f), procsText(f), netsText(want), procsText(want))
	}
	if len(why) > 0 {
		return f, why[0].Code
	}
	return f, api.OK
}

// Made-up sources of all kinds, large and small, against the chapter's words.
func TestEl1AnySource(t *testing.T) {
	d := dice(8)
	codes, count := map[api.Errno]int{}, map[string]int{}
	for i := range 5000 {
		source := makeSource(&d, []int{0, 0, 3, 12, 50}[i%5], i%7 == 0)
		m, ok := readable(source)
		if !ok {
			t.Fatalf("not read: %s", source)
		}
		for _, top := range []string{m[0].Name, m[d.roll(len(m))].Name} {
			f, code := buildIs(t, source, m, top)
			codes[code]++
			tally(f, count)
		}
	}
	for _, code := range []api.Errno{api.OK, api.ErrTwice, api.ErrWord, api.ErrTarget, api.ErrConst, api.ErrOver, api.ErrModule, api.ErrRange, api.ErrSize, api.ErrIndex} {
		if codes[code] < 25 {
			t.Errorf("only %d with the code %d: %v", codes[code], code, codes)
		}
	}
	for _, what := range strings.Fields("open in wire comb reg delay assign always clocked instance for both deep") {
		if count[what] < 300 {
			t.Errorf("only %d of %s: %v", count[what], what, count)
		}
	}
	if codes[api.OK] < 3000 {
		t.Errorf("only %d are accepted", codes[api.OK])
	}
}

// tally counts what designs have: nets by their kinds and by what they are within, and processes.
func tally(f api.Flat, count map[string]int) {
	for _, n := range f.Nets {
		count[[]string{"?", "open", "in", "wire", "comb", "reg", "delay"}[n.Kind]]++
		fors := strings.Count(n.Name, "].")
		instances := strings.Count(n.Name, ".") - fors
		for what, holds := range map[string]bool{"instance": instances > 0, "for": fors > 0, "both": instances > 0 && fors > 0, "deep": instances+fors > 3} {
			if holds {
				count[what]++
			}
		}
	}
	for _, p := range f.Procs {
		count[map[int]string{api.ItAssign: "assign", api.ItComb: "always", api.ItClock: "clocked"}[p.Kind]]++
	}
}
