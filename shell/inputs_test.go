package shell_test

import (
	"fmt"
	"silkworm/api"
	"silkworm/shell"
	"slices"
	"strings"
	"testing"
)

// late is the chapter's example: a source, and what its dump begins with.
const (
	late     = "module m(input a, output y); assign #2 y = ~a; endmodule\n"
	lateDump = "$timescale 1 ns $end\n$scope module top $end\n$var wire 1 ! a $end\n$var wire 1 \" y $end\n$upscope $end\n$enddefinitions $end\n$dumpvars\nx!\nx\"\n$end\n"
	lateHead = "source\n" + late + ".\nbuild m\n"
	lateOk   = "ok\nok\nin a 1\nout y 1\n"
)

// brief is the beginning and the end of what is told.
func brief(v any) string {
	text := fmt.Sprintf("%q", v)
	if len(text) > 3000 {
		text = text[:1500] + " .. " + text[len(text)-1500:]
	}
	return text
}

// runs tells what a script's transcript is.
func runs(t *testing.T, text, want string) {
	t.Helper()
	if got := shell.Run(text); got != want {
		t.Fatalf("%s: %s, not %s", brief(text), brief(got), brief(want))
	}
}

// looks tells that a script's transcript is as the chapter's words have it, and so are those of the beginnings that end ahead of commands.
func looks(t *testing.T, text string) string {
	t.Helper()
	want, begins := meant(text)
	runs(t, text, want)
	for _, at := range begins {
		if got := shell.Run(text[:at]); !strings.HasPrefix(want, got) {
			t.Fatalf("%s: %s does not begin with %s, of the first %d bytes", brief(text), brief(want), brief(got), at)
		}
	}
	return want
}

// answers tells what a command puts out behind others.
func answers(t *testing.T, head, command, want string) {
	t.Helper()
	runs(t, head+command+"\n", shell.Run(head)+want)
	runs(t, head+command, shell.Run(head)+want)
}

// compiles tells that a source is taken, and that what comes of it is what the layers make.
func compiles(t *testing.T, s, top string, passes ...string) (api.Flat, api.Netlist) {
	t.Helper()
	f, l, d := shell.Compile(s, top, passes)
	wantF, wantL, wantD := compiled(s, top, passes)
	if len(d) > 0 || len(wantD) > 0 || !alike(f, wantF) || !alike(l, wantL) {
		t.Fatalf("%s: %s, %s, %v, not %s, %s, %v", brief(s), brief(f), brief(l), d, brief(wantF), brief(wantL), wantD)
	}
	return f, l
}

// refuses tells that a source is refused, and that nothing else is told.
func refuses(t *testing.T, s, top string, passes []string, at int, code api.Errno) {
	t.Helper()
	f, l, d := shell.Compile(s, top, passes)
	if !slices.Equal(d, []api.Diag{{At: at, Code: code}}) || !alike(f, api.Flat{}) || !alike(l, api.Netlist{}) {
		t.Fatalf("%s %q %v: %s, %s, %v, not %d at %d", brief(s), top, passes, brief(f), brief(l), d, code, at)
	}
}

// alike tells whether two values are told alike, as which nil and the empty list are.
func alike(a, b any) bool {
	return fmt.Sprintf("%+v", a) == fmt.Sprintf("%+v", b)
}
