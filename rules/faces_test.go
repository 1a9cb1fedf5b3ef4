package rules

import (
	"silkworm/api"
	"silkworm/conserv"
	"silkworm/consts"
	"silkworm/elab"
	"silkworm/engine"
	"silkworm/event"
	"silkworm/level"
	"silkworm/lexer"
	"silkworm/logic"
	"silkworm/lower"
	"silkworm/lp"
	"silkworm/opt"
	"silkworm/part"
	"silkworm/pre"
	"silkworm/printer"
	"silkworm/sema"
	"silkworm/shell"
	"silkworm/stats"
	"silkworm/syntax"
	"silkworm/vcd"
	"silkworm/warp"
	"silkworm/wave"
)

// The faces that the chapters list: a call that is gone, or has another signature, does not compile here.

var (
	_ func(string) api.Errno                           = logic.Check
	_ func(string, int) (string, api.Errno)            = logic.Fit
	_ func(int, string) (string, api.Errno)            = logic.Unary
	_ func(int, string, string) (string, api.Errno)    = logic.Binary
	_ func(string) (byte, api.Errno)                   = logic.Truth
	_ func(string, string, string) (string, api.Errno) = logic.Cond
	_ func(string, int, int) (string, api.Errno)       = logic.Part
	_ func(string, string) (string, api.Errno)         = logic.Bit
	_ func(string) (int, api.Errno)                    = logic.Number
	_ func(int, int) (string, api.Errno)               = logic.Of
	_ func(string, string) bool                        = logic.Rise
)

var (
	_ func(string) ([]api.Token, []api.Diag)            = lexer.Lex
	_ func(string) (string, bool, api.Errno)            = lexer.Number
	_ func([]api.Token) ([]api.Token, []api.Diag)       = pre.Run
	_ func([]api.Token) ([]api.Module, []api.Diag)      = syntax.Parse
	_ func([]api.Module) (string, api.Errno)            = printer.Print
	_ func(api.Expr) (string, api.Errno)                = printer.Expr
	_ func() *consts.Scope                              = consts.New
	_ func(*consts.Scope, string, int) api.Errno        = (*consts.Scope).Set
	_ func(*consts.Scope, string) (int, bool)           = (*consts.Scope).Get
	_ func(*consts.Scope) *consts.Scope                 = (*consts.Scope).Within
	_ func(*consts.Scope, api.Expr) (int, api.Diag)     = (*consts.Scope).Eval
	_ func([]api.Module) []api.Diag                     = sema.Check
	_ func([]api.Module, string) (api.Flat, []api.Diag) = elab.Build
	_ func(api.Expr, []api.Net) (int, api.Diag)         = elab.Wide
)

var (
	_ func(api.Flat) (api.Netlist, api.Errno)                    = lower.Run
	_ func(api.Netlist) api.Errno                                = lower.Check
	_ func() []string                                            = opt.Passes
	_ func(api.Netlist, []string) (api.Netlist, api.Errno)       = opt.Run
	_ func(api.Netlist) ([]int, api.Errno)                       = level.Run
	_ func(api.Netlist) []int                                    = level.Loop
	_ func(api.Netlist, []api.Change, int) api.Errno             = engine.Check
	_ func(api.Netlist, []api.Change, int) (api.Wave, api.Errno) = engine.Run
	_ func(api.Netlist, int) (api.Parts, api.Errno)              = part.Run
	_ func(api.Netlist, api.Parts) api.Errno                     = part.Check
	_ func(int) (*event.Queue, api.Errno)                        = event.New
	_ func(*event.Queue, api.Event) api.Errno                    = (*event.Queue).Put
	_ func(*event.Queue) (api.Event, bool)                       = (*event.Queue).Min
	_ func(*event.Queue) (api.Event, bool)                       = (*event.Queue).Take
	_ func(*event.Queue, int, int) bool                          = (*event.Queue).Cancel
	_ func(*event.Queue) int                                     = (*event.Queue).Len
	_ func(*event.Queue) *event.Queue                            = (*event.Queue).Copy
)

var (
	_ func(api.Netlist, api.Parts, int, []api.Change, int) (*lp.Process, api.Errno) = lp.New
	_ func(*lp.Process) (int, bool)                                                 = (*lp.Process).Next
	_ func(*lp.Process) int                                                         = (*lp.Process).Done
	_ func(*lp.Process, api.Event) api.Errno                                        = (*lp.Process).Take
	_ func(*lp.Process, int, int) bool                                              = (*lp.Process).Cancel
	_ func(*lp.Process) ([]api.Event, api.Errno)                                    = (*lp.Process).Step
	_ func(*lp.Process) []string                                                    = (*lp.Process).First
	_ func(*lp.Process, int) []api.Change                                           = (*lp.Process).Changes
	_ func(*lp.Process) *lp.Process                                                 = (*lp.Process).Copy
	_ func(api.Parts, int) (int, api.Errno)                                         = conserv.Rounds
	_ func(api.Parts) []api.Pick                                                    = conserv.Round
	_ func(api.Parts, int) (int, api.Errno)                                         = warp.Rounds
	_ func(api.Parts) []api.Pick                                                    = warp.Round

	_ func(api.Netlist, api.Parts, []api.Change, int, []api.Pick) (api.Wave, bool, api.Errno)             = conserv.Run
	_ func(api.Netlist, api.Parts, []api.Change, int, int, []api.Pick) (api.Wave, bool, []int, api.Errno) = warp.Run
)

var (
	_ func(api.Wave) api.Errno                                           = wave.Check
	_ func(api.Wave, int) (api.Wave, api.Errno)                          = wave.Cut
	_ func(api.Wave, int) ([]string, api.Errno)                          = wave.At
	_ func(api.Wave, api.Wave) bool                                      = wave.Begins
	_ func(api.Wave, [][]api.Change) (api.Wave, api.Errno)               = wave.Merge
	_ func(api.Wave) (string, api.Errno)                                 = vcd.Write
	_ func(string) (api.Wave, api.Errno)                                 = vcd.Read
	_ func(int) (string, api.Errno)                                      = vcd.Code
	_ func(api.Wave, int, int) (stats.Stats, api.Errno)                  = stats.Of
	_ func(float64, float64) float64                                     = stats.Ratio
	_ func(float64, float64) int                                         = stats.Order
	_ func(float64) (int, int)                                           = stats.Mills
	_ func(string, string, []string) (api.Flat, api.Netlist, []api.Diag) = shell.Compile
	_ func(string) string                                                = shell.Run
)
