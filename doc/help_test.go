package doc_test

import (
	"fmt"
	"slices"
	"testing"

	"pathfindery/api"
)

// tree is an element with its kids: the plain picture that documents are held against.
type tree struct {
	node api.Node
	kids []*tree
}

// flat lays a tree out as a document.
func flat(t *tree) api.Doc {
	var d api.Doc
	var lay func(t *tree, up int)
	lay = func(t *tree, up int) {
		n := len(d.Nodes)
		x := clone(t.node)
		x.Up = up
		d.Nodes = append(d.Nodes, x)
		for _, k := range t.kids {
			lay(k, n)
		}
	}
	lay(t, -1)
	return d
}

// all lists the trees within t in the order of the document.
func all(t *tree) []*tree {
	list := []*tree{t}
	for _, k := range t.kids {
		list = append(list, all(k)...)
	}
	return list
}

// forests makes every row of trees with n elements in all. (They share trees.)
func forests(n int) [][]*tree {
	if n == 0 {
		return [][]*tree{nil}
	}
	var rows [][]*tree
	for first := 1; first <= n; first++ {
		rest := forests(n - first)
		for _, kids := range forests(first - 1) {
			for _, others := range rest {
				rows = append(rows, append([]*tree{{kids: kids}}, others...))
			}
		}
	}
	return rows
}

// trees makes every tree with n elements, each of them dressed otherwise.
func trees(n int, name string) []*tree {
	var list []*tree
	for _, kids := range forests(n - 1) {
		t := copied(&tree{kids: kids})
		for i, x := range all(t) {
			x.node = dressed(fmt.Sprint(name, i), i)
		}
		list = append(list, t)
	}
	return list
}

// copied is a tree of its own, to be changed.
func copied(t *tree) *tree {
	c := &tree{node: clone(t.node)}
	for _, k := range t.kids {
		c.kids = append(c.kids, copied(k))
	}
	return c
}

// dressed makes an element with some of what one can have.
func dressed(tag string, i int) api.Node {
	x := api.Node{Tag: tag}
	if i%2 == 0 {
		x.Id = tag + "-id"
	}
	for k := range i % 3 {
		x.Classes = append(x.Classes, fmt.Sprint(tag, "-c", k))
	}
	for k := range (i + 1) % 3 {
		x.Attrs = append(x.Attrs, api.Attr{Name: fmt.Sprint("k", k), Value: fmt.Sprint(tag, " ", k)})
	}
	return x
}

func clone(x api.Node) api.Node {
	x.Classes = slices.Clone(x.Classes)
	x.Attrs = slices.Clone(x.Attrs)
	return x
}

func cloneDoc(d api.Doc) api.Doc {
	var c api.Doc
	for _, x := range d.Nodes {
		c.Nodes = append(c.Nodes, clone(x))
	}
	return c
}

func sameNode(a, b api.Node) bool {
	return a.Up == b.Up && a.Tag == b.Tag && a.Id == b.Id &&
		slices.Equal(a.Classes, b.Classes) && slices.Equal(a.Attrs, b.Attrs)
}

// same: an empty list may be nil or not.
func same(a, b api.Doc) bool { return slices.EqualFunc(a.Nodes, b.Nodes, sameNode) }

func node(up int, tag string, classes ...string) api.Node {
	return api.Node{Up: up, Tag: tag, Classes: classes}
}

func doc1(nodes ...api.Node) api.Doc { return api.Doc{Nodes: nodes} }

// row is a first element with kids up to n elements in all.
func row(n int) api.Doc {
	d := doc1(node(-1, "a"))
	for len(d.Nodes) < n {
		d.Nodes = append(d.Nodes, node(0, "b"))
	}
	return d
}

// chain is n elements, each the kid of the one ahead.
func chain(n int) api.Doc {
	var d api.Doc
	for i := range n {
		d.Nodes = append(d.Nodes, node(i-1, "a"))
	}
	return d
}

func wantErr(t *testing.T, what string, got, want api.Errno) {
	t.Helper()
	if got != want {
		t.Errorf("%s: error %d, must be %d", what, got, want)
	}
}

func wantDoc(t *testing.T, what string, got api.Doc, err api.Errno, want api.Doc) {
	t.Helper()
	if err != api.OK || !same(got, want) {
		t.Errorf("%s: %v, error %d; must be %v", what, got, err, want)
	}
}

// wantNoDoc: with an error there is no document.
func wantNoDoc(t *testing.T, what string, got api.Doc, err, want api.Errno) {
	t.Helper()
	wantErr(t, what, err, want)
	if len(got.Nodes) != 0 {
		t.Errorf("%s: a document of %d elements with error %d", what, len(got.Nodes), err)
	}
}
