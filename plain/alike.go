package plain

import (
	"pathfindery/api"
	"pathfindery/same"
)

func sameList(a, b []api.Path) bool {
	return same.Lists(a, b, samePath)
}

func samePath(a, b api.Path) bool {
	return same.Lists(a.Links, b.Links, func(a, b int) bool { return a == b }) &&
		same.Lists(a.Steps, b.Steps, func(a, b api.Step) bool {
			return a.Tag == b.Tag && same.Lists(a.Tests, b.Tests, sameTest)
		})
}

func sameTest(a, b api.Test) bool {
	return a.Kind == b.Kind && a.Name == b.Name && a.Value == b.Value && a.Nth == b.Nth && sameList(a.List, b.List)
}
