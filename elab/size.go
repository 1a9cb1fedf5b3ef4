package elab

import "silkworm/api"

// mostParts is how many parts a tree has: twice as many as there are tokens, each of which begins one part at the most.
const mostParts = 2 * api.MaxTokens

// counter is how many parts of a tree were met. Layer 7 looks at no constant places: those of a tree that was not read may stand within themselves, or be small in memory and have more parts than can be gone over, turn by turn.
type counter int

func (c *counter) part() {
	if *c == mostParts {
		panic(endless{})
	}
	*c++
}

func (c *counter) module(m *api.Module) {
	c.part()
	c.binds(m.Params)
	for i := range m.Ports {
		c.part()
		c.expr(&m.Ports[i].Hi)
		c.expr(&m.Ports[i].Lo)
	}
	c.items(m.Items)
}

func (c *counter) binds(l []api.Bind) {
	for i := range l {
		c.part()
		c.expr(&l[i].Value)
	}
}

func (c *counter) items(l []api.Item) {
	for i := range l {
		c.part()
		c.item(&l[i])
	}
}

func (c *counter) item(x *api.Item) {
	for _, part := range []*api.Expr{&x.Hi, &x.Lo, &x.Delay, &x.Value, &x.While, &x.Next} {
		c.expr(part)
	}
	c.binds(x.Params)
	c.binds(x.Ports)
	c.stmts(x.Body)
	c.items(x.Items)
}

func (c *counter) stmts(l []api.Stmt) {
	for i := range l {
		c.part()
		c.expr(&l[i].Value)
		c.stmts(l[i].Body)
		c.stmts(l[i].Else)
		c.arms(l[i].Arms)
	}
}

func (c *counter) arms(l []api.Arm) {
	for i := range l {
		c.part()
		c.expr(&l[i].Label)
		c.stmts(l[i].Body)
	}
}

// expr counts nothing for an expression that is not there.
func (c *counter) expr(x *api.Expr) {
	if x.Op == 0 && len(x.Kids) == 0 {
		return
	}
	c.part()
	for i := range x.Kids {
		c.expr(&x.Kids[i])
	}
}
