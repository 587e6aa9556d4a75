package index

import (
	"cmp"
	"slices"

	"pathfindery/api"
)

// key is a tag, an id or a class.
type key struct {
	kind int
	name string
}

// gather lays who has which tag, id and class into a map.
func gather(nodes []api.Node) map[key][]int {
	who := map[key][]int{}
	for n, x := range nodes {
		for _, k := range keysOf(x) {
			who[k] = append(who[k], n)
		}
	}
	return who
}

func keysOf(x api.Node) []key {
	keys := []key{{api.KeyTag, x.Tag}}
	if x.Id != "" {
		keys = append(keys, key{api.KeyId, x.Id})
	}
	for _, class := range x.Classes {
		keys = append(keys, key{api.KeyClass, class})
	}
	return keys
}

// entries tells what lies in the map, in the order that a map has not.
func entries(who map[key][]int) []api.Entry {
	var l []api.Entry
	for k, nodes := range who {
		l = append(l, api.Entry{Kind: k.kind, Name: k.name, Nodes: nodes})
	}
	slices.SortFunc(l, func(a, b api.Entry) int {
		return cmp.Or(cmp.Compare(a.Kind, b.Kind), cmp.Compare(a.Name, b.Name))
	})
	return l
}

// possible leaves out the paths that ask for what nobody has: they match nothing.
func possible(who map[key][]int, l []api.Path) []api.Path {
	var open []api.Path
paths:
	for _, p := range l {
		for _, k := range asked(p) {
			if len(who[k]) == 0 {
				continue paths
			}
		}
		open = append(open, p)
	}
	return open
}

// asked are the tags, ids and classes that a path's steps ask for: each step has an element of its own, which must have them.
func asked(p api.Path) []key {
	var keys []key
	for _, s := range p.Steps {
		if s.Tag != "" {
			keys = append(keys, key{api.KeyTag, s.Tag})
		}
		for _, t := range s.Tests {
			switch t.Kind {
			case api.HasId:
				keys = append(keys, key{api.KeyId, t.Name})
			case api.HasClass:
				keys = append(keys, key{api.KeyClass, t.Name})
			}
		}
	}
	return keys
}
