package lower

import "silkworm/api"

// mostParts is how many parts a process has at the most that was built of a source: layer 8 takes no more of all modules.
const mostParts = 2 * api.MaxTokens

// counter is how many parts of a process were met. A process that was not built of a source may stand within itself.
type counter int

func (c *counter) part() {
	if *c == mostParts {
		giveUp(api.ErrArg)
	}
	*c++
}

func (c *counter) stmts(l []api.Stmt) {
	for i := range l {
		c.part()
		c.expr(&l[i].Value)
		c.stmts(l[i].Body)
		c.stmts(l[i].Else)
		c.arms(l[i].Arms)
	}
}

func (c *counter) arms(l []api.Arm) {
	for i := range l {
		c.part()
		c.expr(&l[i].Label)
		c.stmts(l[i].Body)
	}
}

// expr counts nothing for an expression that is not there.
func (c *counter) expr(x *api.Expr) {
	if x.Op == 0 && len(x.Kids) == 0 {
		return
	}
	c.part()
	for i := range x.Kids {
		c.expr(&x.Kids[i])
	}
}
