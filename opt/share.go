package opt

import "silkworm/api"

// own is what a node is, but for what goes in: it tells nodes apart ahead of all else. An input is like no other node.
type own struct {
	kind, op, wide, hi, lo, time int
	ins, input                   int
	value                        string
}

// seen is what a node is by its class, and by the classes of what goes in, as one number.
type seen struct {
	class, ins int
}

// share leaves one of the nodes that are the same.
func share(l api.Netlist) api.Netlist {
	from := ends(l)
	first := map[int]int{}
	stays := classes(l)
	for i, class := range stays {
		if _, there := first[class]; !there {
			first[class] = i
		}
		stays[i] = first[class]
	}
	renumbered(l.Nets, stays)
	renumbered(from, stays)
	for _, n := range l.Nodes {
		renumbered(n.Ins, stays)
	}
	return kept(l, from)
}

// classes tells of each node its class: two are of one class, if nothing tells them apart, neither what they are nor the classes of what goes in. So flip-flops that go into themselves are the same, too, if they go on alike. All begin as what they are alone; then, again and again, those are looked at into which one goes that came to another class.
func classes(l api.Netlist) []int {
	r := refiner{nodes: l.Nodes, users: usersOf(l, all), class: make([]int, len(l.Nodes)), place: make([]int, len(l.Nodes))}
	byOwn := map[own]int{}
	var moved []int
	for i, n := range l.Nodes {
		o := own{kind: n.Kind, op: n.Op, wide: n.Wide, hi: n.Hi, lo: n.Lo, time: n.Time, ins: len(n.Ins), value: n.Value}
		if n.Kind == api.NdIn {
			o.input = i + 1
		}
		if _, there := byOwn[o]; !there {
			byOwn[o] = r.next()
		}
		r.join([]int{i}, byOwn[o])
		moved = append(moved, i)
	}
	for len(moved) > 0 {
		moved = r.split(r.usersOf(moved))
	}
	return r.class
}

// refiner is nodes while they are told apart.
type refiner struct {
	nodes   []api.Node
	users   [][]int
	class   []int
	place   []int   // of each node among those of its class
	members [][]int // of each class
}

func (r *refiner) next() int {
	r.members = append(r.members, nil)
	return len(r.members) - 1
}

func (r *refiner) join(list []int, class int) {
	for _, n := range list {
		r.class[n], r.place[n] = class, len(r.members[class])
		r.members[class] = append(r.members[class], n)
	}
}

// leave takes a node out of those of its class: the last one comes to its place.
func (r *refiner) leave(n int) {
	list := r.members[r.class[n]]
	end := list[len(list)-1]
	list[r.place[n]], r.place[end] = end, r.place[n]
	r.members[r.class[n]] = list[:len(list)-1]
}

// usersOf is the nodes into which one of some goes, each once.
func (r *refiner) usersOf(list []int) []int {
	var out []int
	met := map[int]int{}
	for _, n := range list {
		for _, user := range r.users[n] {
			if met[user]++; met[user] == 1 {
				out = append(out, user)
			}
		}
	}
	return out
}

// split puts nodes into classes of their own, where what goes in tells them apart from others of their class, and tells which came to another one. Those of a class that are not looked at are still the same, since nothing that goes into them moved. The most of a class stay in it: else a long chain would move nearly as a whole, again and again.
func (r *refiner) split(look []int) []int {
	groups := r.groups(look)
	most := map[int]int{}
	for i, g := range groups {
		if best, there := most[r.class[g[0]]]; !there || len(g) > len(groups[best]) {
			most[r.class[g[0]]] = i
		}
	}
	for _, n := range look {
		r.leave(n)
	}
	var moved []int
	for i, g := range groups {
		class := r.class[g[0]]
		goes := g
		if rest := r.members[class]; most[class] == i && len(g) > len(rest) {
			goes, r.members[class] = rest, nil
			r.join(g, class)
		}
		if len(goes) > 0 {
			r.join(goes, r.next())
			moved = append(moved, goes...)
		}
	}
	return moved
}

// groups is nodes that are the same by their class, and by the classes of what goes in.
func (r *refiner) groups(look []int) [][]int {
	var groups [][]int
	at := map[seen]int{}
	lists := map[[2]int]int{}
	for _, n := range look {
		key := seen{class: r.class[n], ins: r.insOf(n, lists)}
		if _, there := at[key]; !there {
			at[key] = len(groups)
			groups = append(groups, nil)
		}
		groups[at[key]] = append(groups[at[key]], n)
	}
	return groups
}

// insOf is the classes of what goes into a node, as one number.
func (r *refiner) insOf(n int, lists map[[2]int]int) int {
	list := 0
	for _, in := range r.nodes[n].Ins {
		longer := [2]int{list, r.class[in]}
		if lists[longer] == 0 {
			lists[longer] = len(lists) + 1
		}
		list = lists[longer]
	}
	return list
}
