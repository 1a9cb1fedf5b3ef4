package elab_test

import (
	"reflect"
	"silkworm/api"
	"silkworm/elab"
	"silkworm/sema"
	"testing"
)

func TestEl1Example(t *testing.T) {
	source := "module sub #(parameter N = 1) (input [N-1:0] a); endmodule module m(input b); sub #(.N(3)) u (.a(b)); endmodule"
	netsAre(t, source, "b:in | u.a<3>:wire")
	procsAre(t, source, "u.a = b")
}

func TestEl2Empty(t *testing.T) {
	for _, source := range []string{"module m(); endmodule", "module m #(parameter N = 1) (); localparam M = N; endmodule", "module n(input a); endmodule module m(); endmodule", "module m(); e u (); endmodule module e(); endmodule"} {
		if f := built(t, source); len(f.Nets) != 0 || len(f.Procs) != 0 || f.Ports != 0 {
			t.Errorf("%q: %v", source, f)
		}
	}
}

// The parameters of a module: bound or not, hanging on those ahead.
func TestEl1Parameters(t *testing.T) {
	sub := " module sub #(parameter N = 2, parameter M = N + 1, parameter K = M << 1) (input [N:0] a, input [M:0] b, input [K:0] c); endmodule"
	for binds, want := range map[string]string{
		"":                           "u.a<3>:open u.b<4>:open u.c<7>:open",
		"#(.N(4))":                   "u.a<5>:open u.b<6>:open u.c<11>:open",
		"#(.M(0))":                   "u.a<3>:open u.b:open u.c:open",
		"#(.K(N))":                   "u.a<3>:open u.b<4>:open u.c<8>:open",
		"#(.K(1), .N(0))":            "u.a:open u.b<2>:open u.c<2>:open",
		"#(.N(N), .M(M), .K(N + M))": "u.a<8>:open u.b<6>:open u.c<13>:open",
		"#(.M(N - 1))":               "u.a<3>:open u.b<7>:open u.c<13>:open",
	} {
		netsAre(t, "module m #(parameter N = 7) (); localparam M = 5; sub "+binds+" u (); endmodule"+sub, want)
	}
	// The names around an instance are not those of its module, nor the other way round.
	refusedAt(t, api.ErrWord, "module m #(parameter P = 1) (); sub u (); endmodule module sub #(parameter N = $P) (); endmodule", "module m(); sub #(.N($N)) u (); endmodule module sub #(parameter N = 1) (); endmodule", "module m(); sub #(.M($N), .N(1)) u (); endmodule module sub #(parameter N = 1, parameter M = 2) (); endmodule", "module m #(parameter A = $B, parameter B = 1) (); endmodule", "module m #(parameter A = $A) (); endmodule")
	// The top's are its own.
	netsAre(t, "module m #(parameter N = 3, parameter M = N - 1) (input [N:0] a, output [M:0] y); assign y = N; endmodule", "a<4>:in y<3>:wire |")
	procsAre(t, "module m #(parameter N = 3, parameter M = N - 1) (output y, output z); assign y = N; assign z = N + M; endmodule", "y = 3", "z = (3 + 2)")
}

func TestEl1Localparams(t *testing.T) {
	netsAre(t, "module m #(parameter N = 3) (); localparam A = N + 1; wire [A:0] a; localparam B = A + N; wire [B:0] b; endmodule", "a<5>:open b<8>:open")
	refusedAt(t, api.ErrWord, "module m(); localparam A = $B; localparam B = 1; endmodule", "module m(); wire [$B:0] w; localparam B = 1; endmodule", "module m(); localparam A = $A; endmodule", "module m(input [$A:0] a); localparam A = 1; endmodule", "module m #(parameter N = $A) (); localparam A = 1; endmodule")
	// Behind the names of the scope all of them count, wherever they stand.
	procsAre(t, "module m(output y, output z); assign #A y = A; localparam A = 4; sub #(.N(B)) u (.y(z)); localparam B = A + 1; endmodule module sub #(parameter N = 1) (output y); assign y = N; endmodule", "y #4 = 4", "z = u.y", "u.y = 5")
	procsAre(t, "module m(output y); for (i = A; i < B; i = i + A) begin : g wire w; assign w = i; end localparam A = 2; localparam B = 5; assign y = A; endmodule", "g[2].w = 2", "g[4].w = 4", "y = 2")
}

func TestEl2NetsInOrder(t *testing.T) {
	netsAre(t, "module m(input b, output z, input [3:0] c); sub u (.y(z)); reg q; wire [1:0] x, y; sub v (); wire w; endmodule module sub(input a, output y); leaf l (); wire s; endmodule module leaf(input i); reg r; endmodule",
		"b:in z:wire c<4>:in | q:open x<2>:open y<2>:open w:open u.a:open u.y:open u.s:open u.l.i:open u.l.r:open v.a:open v.y:open v.s:open v.l.i:open v.l.r:open")
	netsAre(t, "module m(); "+loop("i", 2, "g", "sub u (); wire a; "+loop("j", 2, "h", "wire b, c;")+" reg d;")+" wire e; endmodule module sub(output y); "+loop("k", 2, "f", "wire w;")+" endmodule",
		"e:open g[0].a:open g[0].d:open g[0].u.y:open g[0].u.f[0].w:open g[0].u.f[1].w:open g[0].h[0].b:open g[0].h[0].c:open g[0].h[1].b:open g[0].h[1].c:open g[1].a:open g[1].d:open g[1].u.y:open g[1].u.f[0].w:open g[1].u.f[1].w:open g[1].h[0].b:open g[1].h[0].c:open g[1].h[1].b:open g[1].h[1].c:open")
	// A for's number is its variable's, below 0 too.
	netsAre(t, "module m(); for (i = -1; i < 2; i = i + 1) begin : g wire w; end for (i = 10; i > 1; i = i >> 1) begin : h wire w; end for (k = 5; 0; k = k) begin : n wire w; end endmodule", "g[-1].w:open g[0].w:open g[1].w:open h[10].w:open h[5].w:open h[2].w:open")
	netsAre(t, "module m(); for (i = 2147483647; i > 2147483645; i = i - 1) begin : g wire w; end for (i = -2147483647; i < -2147483646; i = i + 1) begin : h wire w; end endmodule", "g[2147483647].w:open g[2147483646].w:open h[-2147483647].w:open")
}

func TestEl2ProcsInOrder(t *testing.T) {
	procsAre(t, "module m(input b, output z, output y, output reg q); assign y = b; sub u (.y(z), .a(~b)); always @(*) q = b; endmodule module sub(input a, output y, input c, output reg d); always @(posedge a) d <= c; assign y = a; endmodule",
		"y = b", "u.a = ~b", "z = u.y", "@u.a {u.d <= u.c}", "u.y = u.a", "@* {q = b}")
	procsAre(t, "module m(input b, output z); "+loop("i", 2, "g", "wire w, v; assign v = w; "+loop("j", 2, "h", "wire x; assign x = i + j; sub u (.a(x));")+" sub t (.y(w), .a(v));")+" assign z = b; endmodule module sub(input a, output y); assign y = a; endmodule",
		"g[0].v = g[0].w", "g[0].h[0].x = (0 + 0)", "g[0].h[0].u.a = g[0].h[0].x", "g[0].h[0].u.y = g[0].h[0].u.a", "g[0].h[1].x = (0 + 1)", "g[0].h[1].u.a = g[0].h[1].x", "g[0].h[1].u.y = g[0].h[1].u.a", "g[0].t.a = g[0].v", "g[0].w = g[0].t.y", "g[0].t.y = g[0].t.a",
		"g[1].v = g[1].w", "g[1].h[0].x = (1 + 0)", "g[1].h[0].u.a = g[1].h[0].x", "g[1].h[0].u.y = g[1].h[0].u.a", "g[1].h[1].x = (1 + 1)", "g[1].h[1].u.a = g[1].h[1].x", "g[1].h[1].u.y = g[1].h[1].u.a", "g[1].t.a = g[1].v", "g[1].w = g[1].t.y", "g[1].t.y = g[1].t.a", "z = b")
	// Of an instance in the order of its module's ports, not in that of the binds.
	procsAre(t, "module m(input b); wire w, v; sub u (.d(w), .c(1), .b(v), .a(b)); endmodule module sub(input a, output b, input c, output d); endmodule", "u.a = b", "v = u.b", "u.c = 1", "w = u.d")
}

func TestEl2Kinds(t *testing.T) {
	netsAre(t, "module m(input a, input [1:0] b, output c, output d, output reg e, output reg f, output g, output reg h, output i); wire w, v, x, y; reg r, s, q; "+
		"assign c = a; assign #2 d = a; always @(*) begin e = a; r = e; end always @(posedge a) if (b) begin f <= a; s <= b; end assign w = a; assign #1 v = w; sub u (.o(x), .p(i), .j(a)); endmodule "+
		"module sub(input j, input k, output o, output reg p, output n); always @(posedge j) p <= k; assign #3 o = j; endmodule",
		"a:in b<2>:in c:wire d:delay e:comb f:reg g:open h:open i:wire | w:wire v:delay x:wire y:open r:comb s:reg q:open u.j:wire u.k:open u.o:delay u.p:reg u.n:open")
	// An input of a module is none of the top's, in the place of an instance.
	netsAre(t, "module m(input a, output y); "+loop("i", 1, "g", "m2 u (.a(a));")+" m2 v (.y(y)); endmodule module m2(input a, output y); assign y = a; endmodule", "a:in y:wire | g[0].u.a:wire g[0].u.y:wire v.a:open v.y:wire")
	// What is assigned on some way only, and in bodies within one another.
	netsAre(t, "module m(input a, output reg p, output reg q, output reg r, output reg s); always @(posedge a) if (a) case (a) 1: p <= 1; default: begin q <= 1; if (a) begin end else r <= 1; end endcase endmodule", "a:in p:reg q:reg r:reg s:open |")
}

func TestEl2Statements(t *testing.T) {
	procsAre(t, "module m #(parameter P = 3) (input clk, input [3:0] a, output reg [3:0] q, output reg [3:0] r); localparam L = P + 1; "+
		"always @(*) begin q = a; if (a[0]) begin q = q + P; end else if (q) q = L; case (a) 0: q = 1; P: begin q = a[L - 1:1]; end 4'b1xz0: begin end default: q = ~a; endcase end "+
		"always @(posedge clk) case (r) endcase always @(posedge q) begin if (r) begin end r <= {r[2:0], a[r]}; end endmodule",
		"@* {q = a; if a[0] {q = (q + 3)} else {if q {q = 4} else {}}; case a {0: {q = 1} 3: {q = a[3:1]} 4'b1xz0: {} default: {q = ~a}}}", "@clk {case r {}}", "@q {if r {} else {}; r <= {r[2:0], a[r]}}")
	procsAre(t, "module m(input clk); sub u (.c(clk)); "+loop("i", 2, "g", "reg q; wire c; always @(posedge c) q <= clk + i; always @(posedge clk) begin end always @(*) begin end")+" endmodule module sub(input c); reg q; always @(posedge c) begin q <= q; q <= c; end endmodule",
		"u.c = clk", "@u.c {u.q <= u.q; u.q <= u.c}", "@g[0].c {g[0].q <= (clk + 0)}", "@clk {}", "@* {}", "@g[1].c {g[1].q <= (clk + 1)}", "@clk {}", "@* {}")
}

// What a name stands for: the innermost scope that has it tells.
func TestEl1Hiding(t *testing.T) {
	// Of nets and constants of a module by those of a for, and of that by those of another one within it.
	procsAre(t, "module m #(parameter N = 9) (input a, input [3:0] b); wire x; assign x = N; "+
		"for (N = 0; N < 1; N = N + 1) begin : g wire a, x; assign a = N; assign x = a + b; for (a = 5; a < 6; a = a + 1) begin : h wire N, x; assign x = a + N; assign N = x + b; end end endmodule",
		"x = 9", "g[0].a = 0", "g[0].x = (g[0].a + b)", "g[0].h[5].x = (5 + g[0].h[5].N)", "g[0].h[5].N = (g[0].h[5].x + b)")
	procsAre(t, "module m #(parameter N = 9) (input a); "+loop("i", 1, "g", "localparam N = 4; localparam a = N + 1; wire x; assign x = N + a;")+loop("i", 1, "h", "localparam N = N + 1; wire x; assign x = N + a;")+" wire y; assign y = N + a; endmodule", "g[0].x = (4 + 5)", "h[0].x = (10 + a)", "y = (9 + a)")
	// A for's variable is gone behind it.
	procsAre(t, "module m(input i); wire x; "+loop("i", 1, "g", "wire y; assign y = i;")+" assign x = i; endmodule", "g[0].y = 0", "x = i")
	// The same variable in a for within another one: it begins by the number around.
	procsAre(t, "module m(); for (i = 3; i < 5; i = i + 1) begin : g wire a, b; assign a = i; for (i = i + 1; i < 6; i = i + 1) begin : h wire c; assign c = i; end assign b = i; end endmodule", "g[3].a = 3", "g[3].h[4].c = 4", "g[3].h[5].c = 5", "g[3].b = 3", "g[4].a = 4", "g[4].h[5].c = 5", "g[4].b = 4")
	// In constant places only constants count: a net hides none there.
	netsAre(t, "module m #(parameter N = 2, parameter K = 1) (); "+loop("i", 1, "g", "wire N, K; wire [N:0] x; assign #N K = x[N:K]; sub #(.P(N)) u (); "+loop("j", 1, "h", "localparam L = N + 3; wire [L:0] y;"))+" endmodule module sub #(parameter P = 1) (input [P:0] a); endmodule", "g[0].N:open g[0].K:delay g[0].x<3>:open g[0].u.a<3>:open g[0].h[0].y<6>:open")
	procsAre(t, "module m #(parameter N = 2) (); "+loop("i", 1, "g", "wire N; wire [3:0] x; assign #N N = x[N:0] + N;")+" endmodule", "g[0].N #2 = (g[0].x[2:0] + g[0].N)")
	refusedAt(t, api.ErrWord, "module m(input a); wire [$a:0] w; endmodule", "module m(input a, output y); assign y = a[$a:0]; endmodule", "module m(input a, output y); assign #$a y = 1; endmodule", "module m(input a); for (i = $a; i < 1; i = i + 1) begin : g end endmodule", "module m(input a); for (i = 0; i < $a; i = i + 1) begin : g end endmodule", "module m(input a); for (i = 0; i < 1; i = $a) begin : g end endmodule", "module m(input a); localparam L = $a; endmodule", "module m(input a); n #(.N($a)) u (); endmodule module n #(parameter N = 1) (); endmodule", "module m(); e u (); wire [$u:0] w; endmodule module e(); endmodule", "module m(); "+loop("i", 1, "g", "wire [$g:0] w;")+" endmodule")
	// What the items of a for have is not there for its numbers.
	refusedAt(t, api.ErrWord, "module m(); for (i = 0; i < $L; i = i + 1) begin : g localparam L = 1; end endmodule", "module m(); for (i = 0; i < 1; i = i + $L) begin : g localparam L = 1; end endmodule", "module m(); for (i = $i; i < 1; i = i + 1) begin : g end endmodule", "module m(); for (i = $L; i < 1; i = i + 1) begin : g localparam L = 0; end endmodule")
	// An instance's module knows nothing of what is around.
	procsAre(t, "module m #(parameter N = 5) (input a, output y); "+loop("i", 1, "g", "sub u (.a(i), .y(w)); wire w;")+" assign y = N; endmodule module sub #(parameter i = 7) (input a, output y); assign y = a + i; endmodule", "g[0].u.a = 0", "g[0].w = g[0].u.y", "g[0].u.y = (g[0].u.a + 7)", "y = 5")
}

// Instances within instances, of modules that stand ahead and behind; modules that stand within themselves till a number ends it.
func TestEl1Instances(t *testing.T) {
	source := "module low #(parameter N = 1) (input [N-1:0] a, output [N-1:0] y); assign y = ~a; endmodule " +
		"module m(input [3:0] a, output [3:0] y); mid #(.N(4)) one (.a(a), .y(w)); wire [3:0] w; low #(.N(4)) two (.a(w), .y(y)); endmodule " +
		"module mid #(parameter N = 2) (input [N-1:0] a, output [N-1:0] y); low #(.N(N)) in (.a(a + N), .y(y)); last #(.K(N + 1)) out (.a(a)); endmodule module last #(parameter K = 0) (input [K:0] a); endmodule"
	netsAre(t, source, "a<4>:in y<4>:wire | w<4>:wire one.a<4>:wire one.y<4>:wire one.in.a<4>:wire one.in.y<4>:wire one.out.a<6>:wire two.a<4>:wire two.y<4>:wire")
	procsAre(t, source, "one.a = a", "w = one.y", "one.in.a = (one.a + 4)", "one.y = one.in.y", "one.in.y = ~one.in.a", "one.out.a = one.a", "two.a = w", "y = two.y", "two.y = ~two.a")
	netsAre(t, "module m #(parameter N = 2) (input [N:0] a); for (i = 0; i < N; i = N) begin : g m #(.N(N - 1)) u (.a(a[N:1])); end endmodule", "a<3>:in | g[0].u.a<2>:wire g[0].u.g[0].u.a:wire")
	// Other modules of the source are not in the design, nor is their number looked at.
	netsAre(t, "module n(input [9:1] a); wire [k:0] w; assign #0 w = 1; n u (); endmodule module m(input a); endmodule", "a:in |")
}

func TestEl1Refused(t *testing.T) {
	for source, code := range map[string]api.Errno{
		"module m(); endmodule $module m(); endmodule":                                    api.ErrTwice,
		"module m(input a); $wire a; endmodule":                                           api.ErrTwice,
		"module m(output y); assign y = $k; endmodule":                                    api.ErrWord,
		"module m(input a); $assign a = 1; endmodule":                                     api.ErrTarget,
		"module m(output y); assign y = 1; $assign y = 0; endmodule":                      api.ErrDrive,
		"module m(output reg y); always @(*) $y <= 1; endmodule":                          api.ErrBlock,
		"module m(input a, output reg y); $always @(*) if (a) y = 1; endmodule":           api.ErrLatch,
		"module m(); $n u (); endmodule":                                                  api.ErrModule,
		"module m(); n u ($.a(1)); endmodule module n(); endmodule":                       api.ErrPort,
		"module m(input [1:$k] a); endmodule":                                             api.ErrWord,
		"module m(input [$~1:0] a); endmodule":                                            api.ErrConst,
		"module m(input [1 $<< 31:0] a); endmodule":                                       api.ErrOver,
		"module m($input [1:2] a); endmodule":                                             api.ErrRange,
		"module m(input a, output y); assign y = {a, $a[1:0]}; endmodule":                 api.ErrIndex,
		"module m(input [255:0] a, output y); assign y = ${a, a}; endmodule":              api.ErrSize,
		"module m #(parameter P = 1) (output y); assign y = $P[0]; endmodule":             api.ErrConst,
		"module m(); $m u (); endmodule":                                                  api.ErrModule,
		"module m(); $for (i = 0; 1; i = i) begin : g end endmodule":                      api.ErrSize,
		"module n(output y); assign y = $k; endmodule module m(input [2:1] a); endmodule": api.ErrWord, // of a module that is not in the design
	} {
		refusedAt(t, code, source)
	}
	// What layer 7 refuses is told ahead of whatever else, and as it tells it.
	for _, source := range []string{"module m(input [1:2] a); assign a = 1; endmodule", "module m #(parameter N = k) (input a, input a); endmodule", "module m(); m u (); m u (); endmodule", "module m(); assign k = 1; endmodule module m(); endmodule"} {
		m := modulesOf(t, source)
		for _, top := range []string{"m", "n", ""} {
			if f, why := elab.Build(m, top); !reflect.DeepEqual(why, sema.Check(m)) || len(why) != 1 || !reflect.DeepEqual(f, api.Flat{}) {
				t.Errorf("%q: %v %v", source, f, why)
			}
		}
	}
}

func TestEl1Tops(t *testing.T) {
	m := modulesOf(t, "module a(input x); endmodule module b(output y); a u (); endmodule module c(input [2:1] z); endmodule")
	for top, want := range map[string]string{"a": "x:in |", "b": "y:open | u.x:open"} {
		if f, why := elab.Build(m, top); netsText(f) != want || len(why) > 0 {
			t.Errorf("%s: %v %v", top, f, why)
		}
	}
	for _, top := range []string{"", "d", "x", "u", "A", "a ", "module", "\x00"} {
		for _, l := range [][]api.Module{m, m[:1], nil, {}} {
			if f, why := elab.Build(l, top); !reflect.DeepEqual(why, []api.Diag{{Code: api.ErrModule}}) || !reflect.DeepEqual(f, api.Flat{}) {
				t.Errorf("%q: %v %v", top, f, why)
			}
		}
	}
	if _, why := elab.Build(m, "c"); len(why) != 1 || why[0].Code != api.ErrRange {
		t.Error(why)
	}
}
