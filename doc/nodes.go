package doc

import "pathfindery/api"

func kids(nodes []api.Node, n int) []int {
	var found []int
	for i, x := range nodes {
		if x.Up == n {
			found = append(found, i)
		}
	}
	return found
}

// behind tells the number behind the last element under n: the first one that hangs above n ends what is under it.
func behind(nodes []api.Node, n int) int {
	end := n + 1
	for end < len(nodes) && nodes[end].Up >= n {
		end++
	}
	return end
}

// insert lays the elements of more in ahead of element place, the first of them below up.
func insert(nodes []api.Node, up, place int, more []api.Node) []api.Node {
	all := add(nil, nodes[:place], stay)
	all = add(all, more, func(n int) int {
		if n < 0 {
			return up
		}
		return n + place
	})
	return add(all, nodes[place:], func(n int) int {
		if n < place {
			return n
		}
		return n + len(more)
	})
}

// add appends copies of the elements, with Up where move says that it went.
func add(to, nodes []api.Node, move func(up int) int) []api.Node {
	for _, x := range nodes {
		to = append(to, fresh(x, move(x.Up)))
	}
	return to
}

func stay(up int) int { return up }

// fresh copies an element into memory of its own.
func fresh(x api.Node, up int) api.Node {
	x.Up = up
	x.Classes = append([]string(nil), x.Classes...)
	x.Attrs = append([]api.Attr(nil), x.Attrs...)
	return x
}
