package shell

import (
	"silkworm/api"
	"silkworm/level"
	"silkworm/lexer"
	"silkworm/lower"
	"silkworm/opt"
	"silkworm/pre"
	"silkworm/syntax"
)

// modulesOf is the modules of a source, or why it is refused.
func modulesOf(s string) ([]api.Module, []api.Diag) {
	tokens, why := lexer.Lex(s)
	if len(why) > 0 {
		return nil, why
	}
	tokens, why = pre.Run(tokens)
	if len(why) > 0 {
		return nil, why
	}
	return syntax.Parse(tokens)
}

// netlistOf is the netlist of a flat design behind passes. Loops are looked for last: one that passes took away does not count.
func netlistOf(flat api.Flat, passes []string) (api.Netlist, api.Errno) {
	netlist, e := lower.Run(flat)
	if e != api.OK {
		return api.Netlist{}, e
	}
	netlist, e = opt.Run(netlist, passes)
	if e != api.OK {
		return api.Netlist{}, e
	}
	if _, e := level.Run(netlist); e != api.OK {
		return api.Netlist{}, e
	}
	return netlist, api.OK
}
