package printer

import (
	"silkworm/api"
	"slices"
)

// Two trees are the same if all their fields but places are: also those that no text tells, which a tree that is read has not set.

func sameModule(a, b api.Module) bool {
	return a.Name == b.Name && slices.EqualFunc(a.Params, b.Params, sameBind) && slices.EqualFunc(a.Ports, b.Ports, samePort) && slices.EqualFunc(a.Items, b.Items, sameItem)
}

func sameBind(a, b api.Bind) bool {
	return a.Name == b.Name && sameExpr(a.Value, b.Value)
}

func samePort(a, b api.Port) bool {
	return a.Out == b.Out && a.Reg == b.Reg && a.Ranged == b.Ranged && a.Name == b.Name && sameExpr(a.Hi, b.Hi) && sameExpr(a.Lo, b.Lo)
}

func sameItem(a, b api.Item) bool {
	return a.Kind == b.Kind && sameWords(a, b) && sameValues(a, b) && sameLists(a, b)
}

func sameWords(a, b api.Item) bool {
	return a.Name == b.Name && a.Ranged == b.Ranged && a.Timed == b.Timed && a.Var == b.Var && a.Module == b.Module
}

func sameValues(a, b api.Item) bool {
	return sameExpr(a.Hi, b.Hi) && sameExpr(a.Lo, b.Lo) && sameExpr(a.Delay, b.Delay) && sameExpr(a.Value, b.Value) && sameExpr(a.While, b.While) && sameExpr(a.Next, b.Next)
}

func sameLists(a, b api.Item) bool {
	return slices.Equal(a.Names, b.Names) && slices.EqualFunc(a.Params, b.Params, sameBind) && slices.EqualFunc(a.Ports, b.Ports, sameBind) && slices.EqualFunc(a.Body, b.Body, sameStmt) && slices.EqualFunc(a.Items, b.Items, sameItem)
}

func sameStmt(a, b api.Stmt) bool {
	return a.Kind == b.Kind && a.Target == b.Target && sameExpr(a.Value, b.Value) && slices.EqualFunc(a.Body, b.Body, sameStmt) && slices.EqualFunc(a.Else, b.Else, sameStmt) && slices.EqualFunc(a.Arms, b.Arms, sameArm)
}

func sameArm(a, b api.Arm) bool {
	return a.Default == b.Default && sameExpr(a.Label, b.Label) && slices.EqualFunc(a.Body, b.Body, sameStmt)
}

func sameExpr(a, b api.Expr) bool {
	return a.Op == b.Op && a.Name == b.Name && a.Value == b.Value && a.Plain == b.Plain && slices.EqualFunc(a.Kids, b.Kids, sameExpr)
}
