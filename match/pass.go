package match

import (
	"slices"
	"strings"

	"pathfindery/api"
	"pathfindery/nth"
)

// asking makes of a test the question whether an element passes it.
func (t tree) asking(q api.Test) func(n int) bool {
	switch q.Kind {
	case api.HasClass:
		return func(n int) bool { return slices.Contains(t.nodes[n].Classes, q.Name) }
	case api.HasId:
		return func(n int) bool { return t.nodes[n].Id == q.Name }
	case api.NthKid:
		return func(n int) bool { return nth.Holds(q.Nth, t.number[n]) }
	case api.NthLast:
		return func(n int) bool { return nth.Holds(q.Nth, t.fromLast[n]) }
	case api.Empty:
		return func(n int) bool { return t.kids[n] == 0 }
	case api.Root:
		return func(n int) bool { return n == 0 }
	case api.Not:
		found := t.ofList(q.List)
		return func(n int) bool { return !found[n] }
	case api.Is:
		found := t.ofList(q.List)
		return func(n int) bool { return found[n] }
	case api.Has:
		over := t.over(t.ofList(q.List))
		return func(n int) bool { return over[n] }
	}
	return func(n int) bool {
		return slices.ContainsFunc(t.nodes[n].Attrs, func(a api.Attr) bool { return a.Name == q.Name && isValue(q, a.Value) })
	}
}

// over tells which elements have one of those found under them.
func (t tree) over(found []bool) []bool {
	over := make([]bool, len(t.nodes))
	for n, is := range found {
		if !is {
			continue
		}
		for up := range t.above(n) {
			over[up] = true
		}
	}
	return over
}

// isValue tells whether an attribute's value is what a test of attributes asks for.
func isValue(q api.Test, value string) bool {
	switch q.Kind {
	case api.HasAttr:
		return true
	case api.AttrIs:
		return value == q.Value
	case api.AttrBegins:
		return q.Value != "" && strings.HasPrefix(value, q.Value)
	case api.AttrEnds:
		return q.Value != "" && strings.HasSuffix(value, q.Value)
	case api.AttrHolds:
		return q.Value != "" && strings.Contains(value, q.Value)
	}
	return q.Value != "" && hasWord(value, q.Value)
}

func hasWord(value, word string) bool {
	for w := range strings.SplitSeq(value, " ") {
		if w == word {
			return true
		}
	}
	return false
}
