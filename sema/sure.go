package sema

import "silkworm/api"

// path goes over an always without a clock, and knows which of its targets are sure.
type path struct {
	*checker
	targets names
	sure    names
}

// keepsNothing refuses an always that reads, or leaves as it was, what it has not assigned.
func (p *process) keepsNothing(x *api.Item) {
	w := path{checker: p.checker, targets: p.targets, sure: names{}}
	w.stmts(x.Body)
	if len(w.sure) < len(w.targets) {
		giveUp(x.At, api.ErrLatch)
	}
}

// stmts is which targets are sure behind statements, and were not ahead of them.
func (w *path) stmts(l []api.Stmt) []string {
	var fresh []string
	for i := range l {
		fresh = append(fresh, w.stmt(&l[i])...)
	}
	return fresh
}

func (w *path) stmt(x *api.Stmt) []string {
	w.look()
	switch x.Kind {
	case api.StSet, api.StDefer:
		w.read(&x.Value)
		return w.assigned(x.Target)
	case api.StIf:
		w.read(&x.Value)
		return w.behind([][]string{w.way(x.Body), w.way(x.Else)})
	case api.StCase:
		w.read(&x.Value)
		return w.behind(w.arms(x.Arms))
	}
	return nil
}

// arms is the ways through a case. Without a default there is one on which nothing is done.
func (w *path) arms(l []api.Arm) [][]string {
	var ways [][]string
	whole := false
	for i := range l {
		w.look()
		if !l[i].Default {
			w.read(&l[i].Label)
		}
		whole = whole || l[i].Default
		ways = append(ways, w.way(l[i].Body))
	}
	if !whole {
		ways = append(ways, nil)
	}
	return ways
}

// way is what becomes sure on one of several ways; ahead of the next one it is not sure any more.
func (w *path) way(l []api.Stmt) []string {
	fresh := w.stmts(l)
	for _, name := range fresh {
		delete(w.sure, name)
	}
	return fresh
}

// behind is what becomes sure on each way.
func (w *path) behind(ways [][]string) []string {
	count := names{}
	for _, fresh := range ways {
		for _, name := range fresh {
			count[name]++
		}
	}
	var fresh []string
	for _, name := range ways[0] {
		if count[name] == len(ways) {
			fresh = append(fresh, w.assigned(name)...)
		}
	}
	return fresh
}

// assigned makes a target sure: it is told, if it was not.
func (w *path) assigned(name string) []string {
	if !w.sure.add(name, reg) {
		return nil
	}
	return []string{name}
}

func (w *path) read(x *api.Expr) {
	w.named(x, func(x *api.Expr) {
		if w.targets[x.Name] != 0 && w.sure[x.Name] == 0 {
			giveUp(x.At, api.ErrLatch)
		}
	})
}
