package part

import (
	"silkworm/api"
	"slices"
)

// ahead is how soon each part reaches each other one at the least; 0: never.
func ahead(nodes []api.Node, of []int, parts int) [][]int {
	out := make([][]int, parts)
	for i := range out {
		out[i] = make([]int, parts)
	}
	for n, node := range nodes {
		if node.Kind != api.NdDelay {
			continue
		}
		from, to := of[node.Ins[0]], of[n]
		if least := out[from][to]; from != to && (least == 0 || node.Time < least) {
			out[from][to] = node.Time
		}
	}
	return out
}

// allTold tells whether each node has a part that there is, and each part a node.
func allTold(nodes []api.Node, p api.Parts) bool {
	if p.N < 1 || p.N > api.MaxParts || len(p.Of) != len(nodes) {
		return false
	}
	told := make([]bool, p.N)
	for _, k := range p.Of {
		if k < 0 || k >= p.N {
			return false
		}
		told[k] = true
	}
	return !slices.Contains(told, false)
}

// together tells whether nodes that no delay is between have the same part.
func together(nodes []api.Node, of []int) bool {
	for n, node := range nodes {
		if node.Kind == api.NdDelay {
			continue
		}
		for _, in := range node.Ins {
			if of[in] != of[n] {
				return false
			}
		}
	}
	return true
}

// reaches tells whether the parts reach one another just as soon as they say.
func reaches(nodes []api.Node, p api.Parts) bool {
	return slices.EqualFunc(p.Ahead, ahead(nodes, p.Of, p.N), slices.Equal)
}
