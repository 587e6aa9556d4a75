package match

import "pathfindery/api"

// What is found is told of all elements at once: so each list, of those in tests too, is gone through one time only, however many elements ask for it.

// ofList tells of each element whether it matches one of the paths.
func (t tree) ofList(l []api.Path) []bool {
	found := make([]bool, len(t.nodes))
	for _, p := range l {
		for n, is := range t.ofPath(p) {
			found[n] = found[n] || is
		}
	}
	return found
}

// ofPath goes on from those that match the path up to a step to those that match it up to the next one.
func (t tree) ofPath(p api.Path) []bool {
	found := t.ofStep(p.Steps[0])
	for i, link := range p.Links {
		found = t.goOn(found, link, t.ofStep(p.Steps[i+1]))
	}
	return found
}

// goOn tells which of the elements in to a link leads to from one in from.
func (t tree) goOn(from []bool, link int, to []bool) []bool {
	found := make([]bool, len(t.nodes))
elements:
	for n := range t.nodes {
		if !to[n] {
			continue
		}
		for m := range t.from(link, n) {
			if from[m] {
				found[n] = true
				continue elements
			}
		}
	}
	return found
}

// ofStep tells of each element whether it is of the step's tag and passes its tests.
func (t tree) ofStep(s api.Step) []bool {
	found := make([]bool, len(t.nodes))
	for n, x := range t.nodes {
		found[n] = s.Tag == "" || s.Tag == x.Tag
	}
	for _, q := range s.Tests {
		passes := t.asking(q)
		for n := range found {
			found[n] = found[n] && passes(n)
		}
	}
	return found
}
