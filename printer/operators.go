package printer

import "silkworm/api"

// How tightly expressions bind; between loose and unary are the binary ones.
const (
	loose   = 0  // what is ? :
	binary  = 1  // the loosest of two parts
	unary   = 10 // what is behind a sign
	primary = 11 // what needs no brackets anywhere
)

// operator is what an expression has: its sign, how many parts (anyParts: some), and how tightly it binds.
type operator struct {
	sign  string
	parts int
	tight int
}

const anyParts = -1

var operators = [...]operator{
	api.OpNum:  {"", 0, primary},
	api.OpName: {"", 0, primary},
	api.OpBit:  {"", 1, primary},
	api.OpPart: {"", 2, primary},
	api.OpCat:  {"", anyParts, primary},
	api.OpCond: {"?", 3, loose},
	api.OpNot:  {"~", 1, unary},
	api.OpLog:  {"!", 1, unary},
	api.OpNeg:  {"-", 1, unary},
	api.OpAllR: {"&", 1, unary},
	api.OpAnyR: {"|", 1, unary},
	api.OpXorR: {"^", 1, unary},
	api.OpAdd:  {"+", 2, 9},
	api.OpSub:  {"-", 2, 9},
	api.OpShl:  {"<<", 2, 8},
	api.OpShr:  {">>", 2, 8},
	api.OpLt:   {"<", 2, 7},
	api.OpLe:   {"<=", 2, 7},
	api.OpGt:   {">", 2, 7},
	api.OpGe:   {">=", 2, 7},
	api.OpEq:   {"==", 2, 6},
	api.OpNe:   {"!=", 2, 6},
	api.OpAnd:  {"&", 2, 5},
	api.OpXor:  {"^", 2, 4},
	api.OpOr:   {"|", 2, 3},
	api.OpLand: {"&&", 2, 2},
	api.OpLor:  {"||", 2, binary},
}

// operatorOf is what an expression has, if its operator is one, and its parts are as many as it needs.
func operatorOf(x api.Expr) operator {
	if x.Op < api.OpNum || x.Op > api.OpLor {
		panic(refused{})
	}
	o := operators[x.Op]
	if o.parts != anyParts && o.parts != len(x.Kids) {
		panic(refused{})
	}
	return o
}
