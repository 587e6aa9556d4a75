package live

import (
	"pathfindery/api"
	"pathfindery/index"
	"pathfindery/same"
)

// change makes of a right page the one whose document is changed so.
func change(p api.Page, how func(api.Doc) (api.Doc, api.Errno)) (api.Page, api.Errno) {
	if err := check(p); err != api.OK {
		return api.Page{}, err
	}
	return indexed(how(p.Doc))
}

// check tells the errors of the document ahead of those of the index.
func check(p api.Page) api.Errno {
	right, err := index.Build(p.Doc)
	if err != api.OK {
		return err
	}
	if !sameIndex(p.Index, right) {
		return api.ErrForm
	}
	return api.OK
}

func sameIndex(a, b []api.Entry) bool {
	return same.Lists(a, b, func(a, b api.Entry) bool {
		return a.Kind == b.Kind && a.Name == b.Name && sameNumbers(a.Nodes, b.Nodes)
	})
}

func sameNumbers(a, b []int) bool {
	return same.Lists(a, b, func(a, b int) bool { return a == b })
}

// indexed lays the index beside a document that a call made, if it made one. The index is built anew each time: one insertion moves the numbers of all elements behind it.
func indexed(d api.Doc, err api.Errno) (api.Page, api.Errno) {
	if err != api.OK {
		return api.Page{}, err
	}
	entries, err := index.Build(d)
	if err != api.OK {
		return api.Page{}, err
	}
	return api.Page{Doc: d, Index: entries}, api.OK
}
