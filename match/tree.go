package match

import (
	"iter"

	"pathfindery/api"
)

// tree is the elements of a right document, with the numbers that are asked of them again and again.
type tree struct {
	nodes    []api.Node
	kids     []int // how many an element has
	number   []int // its number among the kids of the one above, from 1 on
	fromLast []int // the same, from the last one on
}

func grow(nodes []api.Node) tree {
	t := tree{nodes, make([]int, len(nodes)), make([]int, len(nodes)), make([]int, len(nodes))}
	t.number[0], t.fromLast[0] = 1, 1
	for n, x := range nodes[1:] {
		t.kids[x.Up]++
		t.number[n+1] = t.kids[x.Up]
	}
	for n, x := range nodes[1:] {
		t.fromLast[n+1] = t.kids[x.Up] - t.number[n+1] + 1
	}
	return t
}

// from goes through the elements from which a link leads to element n.
func (t tree) from(link, n int) iter.Seq[int] {
	switch link {
	case api.Below:
		return t.above(n)
	case api.Kid:
		return first(t.above(n))
	case api.Next:
		return first(t.ahead(n))
	}
	return t.ahead(n)
}

// above goes through the one above element n, the one above that, and so on.
func (t tree) above(n int) iter.Seq[int] {
	return func(yield func(int) bool) {
		for up := t.nodes[n].Up; up >= 0; up = t.nodes[up].Up {
			if !yield(up) {
				return
			}
		}
	}
}

// ahead goes through the kids of the same one that stand ahead of element n, the nearest first.
func (t tree) ahead(n int) iter.Seq[int] {
	return func(yield func(int) bool) {
		up := t.nodes[n].Up
		for m := n - 1; m > up; m-- {
			if t.nodes[m].Up == up && !yield(m) {
				return
			}
		}
	}
}

// first goes through the first one alone.
func first(all iter.Seq[int]) iter.Seq[int] {
	return func(yield func(int) bool) {
		for n := range all {
			yield(n)
			return
		}
	}
}
