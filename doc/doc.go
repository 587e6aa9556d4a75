// Package doc: documents: see doc/01-doc.md.
package doc

import "pathfindery/api"

// Check: see the chapter.
func Check(d api.Doc) api.Errno {
	if len(d.Nodes) < 1 || len(d.Nodes) > api.MaxNodes {
		return api.ErrMany
	}
	for i, x := range d.Nodes {
		if !isRight(x) || !hangsRight(d.Nodes, i) {
			return api.ErrForm
		}
	}
	return api.OK
}

// Kids: see the chapter.
func Kids(d api.Doc, n int) ([]int, api.Errno) {
	if err := checkAt(d, n); err != api.OK {
		return nil, err
	}
	return kids(d.Nodes, n), api.OK
}

// Under: see the chapter.
func Under(d api.Doc, n int) (int, api.Errno) {
	if err := checkAt(d, n); err != api.OK {
		return 0, err
	}
	return behind(d.Nodes, n) - n - 1, api.OK
}

// Part: see the chapter.
func Part(d api.Doc, n int) (api.Doc, api.Errno) {
	if err := checkAt(d, n); err != api.OK {
		return api.Doc{}, err
	}
	part := add(nil, d.Nodes[n:behind(d.Nodes, n)], func(up int) int {
		if up < n {
			return -1
		}
		return up - n
	})
	return api.Doc{Nodes: part}, api.OK
}

// Insert: see the chapter.
func Insert(d api.Doc, up, at int, e api.Doc) (api.Doc, api.Errno) {
	if err := Check(d); err != api.OK {
		return api.Doc{}, err
	}
	if err := Check(e); err != api.OK {
		return api.Doc{}, err
	}
	if !has(d, up) {
		return api.Doc{}, api.ErrNone
	}
	below := kids(d.Nodes, up)
	if at < 0 || at > len(below) {
		return api.Doc{}, api.ErrRange
	}
	if len(d.Nodes)+len(e.Nodes) > api.MaxNodes {
		return api.Doc{}, api.ErrMany
	}
	place := behind(d.Nodes, up)
	if at < len(below) {
		place = below[at]
	}
	return api.Doc{Nodes: insert(d.Nodes, up, place, e.Nodes)}, api.OK
}

// Remove: see the chapter.
func Remove(d api.Doc, n int) (api.Doc, api.Errno) {
	if err := checkAt(d, n); err != api.OK {
		return api.Doc{}, err
	}
	if n == 0 {
		return api.Doc{}, api.ErrRange
	}
	end := behind(d.Nodes, n)
	left := add(nil, d.Nodes[:n], stay)
	left = add(left, d.Nodes[end:], func(up int) int {
		if up < n {
			return up
		}
		return up - (end - n)
	})
	return api.Doc{Nodes: left}, api.OK
}

// Put: see the chapter.
func Put(d api.Doc, n int, x api.Node) (api.Doc, api.Errno) {
	if err := checkAt(d, n); err != api.OK {
		return api.Doc{}, err
	}
	if !isRight(x) {
		return api.Doc{}, api.ErrForm
	}
	nodes := add(nil, d.Nodes, stay)
	nodes[n] = fresh(x, d.Nodes[n].Up)
	return api.Doc{Nodes: nodes}, api.OK
}
