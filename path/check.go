package path

import (
	"iter"

	"pathfindery/api"
	"pathfindery/nth"
	"pathfindery/text"
)

// tests goes through the tests of all steps of a path.
func tests(p api.Path) iter.Seq[api.Test] {
	return func(yield func(api.Test) bool) {
		for _, s := range p.Steps {
			for _, t := range s.Tests {
				if !yield(t) {
					return
				}
			}
		}
	}
}

// fits tells whether there is as much of everything as there may be, in the lists within l too; l itself lies so deep. Lists that hold themselves end by that bound.
func fits(l []api.Path, deep int) bool {
	if deep > api.MaxDeep || len(l) < 1 || len(l) > api.MaxList {
		return false
	}
	for _, p := range l {
		if !pathFits(p) {
			return false
		}
		for t := range tests(p) {
			if hasList(t) && !fits(t.List, deep+1) {
				return false
			}
		}
	}
	return true
}

func pathFits(p api.Path) bool {
	if len(p.Steps) < 1 || len(p.Steps) > api.MaxParts || len(p.Links) != len(p.Steps)-1 {
		return false
	}
	for _, s := range p.Steps {
		if len(s.Tests) > api.MaxTests {
			return false
		}
	}
	return true
}

// every tells whether all paths of l, and of the lists within it, are right. Only a list that fits is asked: the calls go no deeper than it does.
func every(l []api.Path, right func(api.Path) bool) bool {
	for _, p := range l {
		if !right(p) {
			return false
		}
		for t := range tests(p) {
			if hasList(t) && !every(t.List, right) {
				return false
			}
		}
	}
	return true
}

func hasKinds(p api.Path) bool {
	for _, link := range p.Links {
		if !isLink(link) {
			return false
		}
	}
	for t := range tests(p) {
		if !isKind(t.Kind) {
			return false
		}
	}
	return true
}

func hasForm(p api.Path) bool {
	for _, s := range p.Steps {
		if s.Tag != "" && !text.IsName(s.Tag) {
			return false
		}
	}
	for t := range tests(p) {
		if !testHasForm(t) {
			return false
		}
	}
	return true
}

func testHasForm(t api.Test) bool {
	f := forms[t.Kind]
	return isAsked(f.name, text.IsName(t.Name), t.Name == "") &&
		isAsked(f.value, text.IsValue(t.Value), t.Value == "") &&
		(f.count || t.Nth == api.Nth{}) &&
		(f.list || len(t.List) == 0)
}

// isAsked: a field that there is must be right, any other empty.
func isAsked(there, right, empty bool) bool {
	if there {
		return right
	}
	return empty
}

func hasCounts(p api.Path) bool {
	for t := range tests(p) {
		if forms[t.Kind].count && nth.Check(t.Nth) != api.OK {
			return false
		}
	}
	return true
}
