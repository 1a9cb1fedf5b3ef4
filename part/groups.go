package part

import (
	"maps"
	"silkworm/api"
	"slices"
)

// sets is sets of nodes: of each node another one of its set that is lower, or itself, if it is the lowest.
type sets []int

func newSets(count int) sets {
	s := make(sets, count)
	for n := range s {
		s[n] = n
	}
	return s
}

// lowest is the lowest node of a node's set. It shortens the way there, since a way may become as long as the netlist.
func (s sets) lowest(n int) int {
	for s[n] != n {
		s[n] = s[s[n]]
		n = s[n]
	}
	return n
}

func (s sets) join(a, b int) {
	a, b = s.lowest(a), s.lowest(b)
	s[max(a, b)] = min(a, b)
}

// groups is the nodes in groups that may not be parted further: two nodes are of one, if no delay is between them.
func groups(nodes []api.Node) [][]int {
	s := newSets(len(nodes))
	for n, node := range nodes {
		if node.Kind == api.NdDelay {
			continue
		}
		for _, in := range node.Ins {
			s.join(n, in)
		}
	}
	var list [][]int
	at := make([]int, len(nodes))
	for n := range nodes {
		first := s.lowest(n)
		if first == n {
			at[n] = len(list)
			list = append(list, nil)
		}
		list[at[first]] = append(list[at[first]], n)
	}
	return list
}

// deal is of each node the part that its group goes to. The largest groups go first, each to a part that has the fewest nodes till then: so the parts come out about as large, and none of them is left empty, if there are as many groups.
func deal(list [][]int, nodes, parts int) []int {
	bySize := map[int][][]int{}
	for _, g := range list {
		bySize[len(g)] = append(bySize[len(g)], g)
	}
	of := make([]int, nodes)
	load := make([]int, parts)
	for _, size := range slices.Backward(slices.Sorted(maps.Keys(bySize))) {
		for _, g := range bySize[size] {
			k := slices.Index(load, slices.Min(load))
			load[k] += size
			for _, n := range g {
				of[n] = k
			}
		}
	}
	return of
}
