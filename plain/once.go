package plain

import (
	"pathfindery/api"
	"pathfindery/same"
)

// What is made here is new memory throughout: a list that comes out of a test was made for that test, which is there no more.

// plainer makes a list plainer once, those in its tests too.
func plainer(l []api.Path) []api.Path {
	var paths []api.Path
	for _, p := range l {
		paths = append(paths, plainerPath(p))
	}
	return same.Firsts(paths, samePath)
}

func plainerPath(p api.Path) api.Path {
	made := api.Path{Links: append([]int(nil), p.Links...)}
	for _, s := range p.Steps {
		made.Steps = append(made.Steps, plainerStep(s))
	}
	return made
}

func plainerStep(s api.Step) api.Step {
	made := api.Step{Tag: s.Tag}
	for i, t := range s.Tests {
		t.List = plainer(t.List)
		add(&made, t, len(s.Tests)-i-1)
	}
	made.Tests = same.Firsts(made.Tests, sameTest)
	return made
}

// add lays down what comes in the place of a test, behind which so many more will stand.
func add(to *api.Step, t api.Test, behind int) {
	only, one := onlyStep(t.List)
	switch {
	case t.Kind == api.Not && one && isNot(only):
		to.Tests = append(to.Tests, api.Test{Kind: api.Is, List: only.Tests[0].List})
	case t.Kind == api.Is && one && goTogether(*to, only) && len(to.Tests)+len(only.Tests)+behind <= api.MaxTests:
		to.Tests = append(to.Tests, only.Tests...)
		if to.Tag == "" {
			to.Tag = only.Tag
		}
	default:
		to.Tests = append(to.Tests, t)
	}
}

// onlyStep tells the step of a list of one path of one step.
func onlyStep(l []api.Path) (api.Step, bool) {
	if len(l) != 1 || len(l[0].Steps) != 1 {
		return api.Step{}, false
	}
	return l[0].Steps[0], true
}

// isNot tells whether a step asks for nothing but one Not.
func isNot(s api.Step) bool {
	return s.Tag == "" && len(s.Tests) == 1 && s.Tests[0].Kind == api.Not
}

// goTogether tells whether one Tag can say what the Tags of both steps say.
func goTogether(a, b api.Step) bool {
	return a.Tag == "" || b.Tag == "" || a.Tag == b.Tag
}
