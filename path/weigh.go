package path

import (
	"cmp"

	"pathfindery/api"
)

func weigh(p api.Path) api.Weight {
	var w api.Weight
	for _, s := range p.Steps {
		if s.Tag != "" {
			w.Tags++
		}
	}
	for t := range tests(p) {
		w = together(w, weighTest(t))
	}
	return w
}

func weighTest(t api.Test) api.Weight {
	switch {
	case t.Kind == api.HasId:
		return api.Weight{Ids: 1}
	case hasList(t):
		return greatest(t.List)
	}
	return api.Weight{Tests: 1}
}

func together(a, b api.Weight) api.Weight {
	return api.Weight{Ids: a.Ids + b.Ids, Tests: a.Tests + b.Tests, Tags: a.Tags + b.Tags}
}

func greatest(l []api.Path) api.Weight {
	var most api.Weight
	for _, p := range l {
		if w := weigh(p); isLess(most, w) {
			most = w
		}
	}
	return most
}

func isLess(a, b api.Weight) bool {
	return cmp.Or(cmp.Compare(a.Ids, b.Ids), cmp.Compare(a.Tests, b.Tests), cmp.Compare(a.Tags, b.Tags)) < 0
}
