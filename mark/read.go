package mark

import (
	"pathfindery/api"
	"pathfindery/doc"
	"pathfindery/text"
)

func readDoc(r *text.Reader) api.Doc {
	d := api.Doc{Nodes: readElement(r, nil, -1)}
	if doc.Check(d) != api.OK {
		text.Refuse()
	}
	return d
}

// readElement appends the element that comes next, and what is under it.
func readElement(r *text.Reader, nodes []api.Node, up int) []api.Node {
	// Refused here, and not by the check at the end, so that no text makes the calls go deep.
	if len(nodes) == api.MaxNodes {
		text.Refuse()
	}
	n := len(nodes)
	nodes = append(nodes, readNode(r, up))
	if !r.Take("(") {
		return nodes
	}
	for {
		nodes = readElement(r, nodes, n)
		if r.Take(")") {
			return nodes
		}
		r.Need(" ")
	}
}

func readNode(r *text.Reader, up int) api.Node {
	x := api.Node{Up: up, Tag: r.Name()}
	if r.Take("#") {
		x.Id = r.Name()
	}
	// What is more than an element may have is left standing, so that no text makes the lists long; nothing else takes it.
	for len(x.Classes) < api.MaxClasses && r.Take(".") {
		x.Classes = append(x.Classes, r.Name())
	}
	for len(x.Attrs) < api.MaxAttrs && r.Take("[") {
		x.Attrs = append(x.Attrs, readAttr(r))
	}
	return x
}

func readAttr(r *text.Reader) api.Attr {
	name := r.Name()
	r.Need("=")
	value := r.Value()
	r.Need("]")
	return api.Attr{Name: name, Value: value}
}
