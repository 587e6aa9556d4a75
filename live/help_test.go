package live_test

import (
	"fmt"
	"math"
	"slices"
	"testing"

	"pathfindery/api"
	"pathfindery/live"
	"pathfindery/mark"
	"pathfindery/path"
)

const sample = `list#top(item.a item.b(link[to="one two"]) item.a)`

func readDoc(t *testing.T, s string) api.Doc {
	t.Helper()
	d, err := mark.Read(s)
	if err != api.OK {
		t.Fatalf("the document %q can't be read: error %d", s, err)
	}
	return d
}

func readList(t *testing.T, s string) []api.Path {
	t.Helper()
	l, err := path.Read(s)
	if err != api.OK {
		t.Fatalf("the list %q can't be read: error %d", s, err)
	}
	return l
}

// page is a document with the index that it must have.
func page(d api.Doc) api.Page { return api.Page{Doc: d, Index: want(d)} }

// want is the index of a document, told by other means.
func want(d api.Doc) []api.Entry {
	var all []api.Entry
	add := func(kind, n int, name string) {
		for i, e := range all {
			if e.Kind == kind && e.Name == name {
				all[i].Nodes = append(all[i].Nodes, n)
				return
			}
		}
		all = append(all, api.Entry{Kind: kind, Name: name, Nodes: []int{n}})
	}
	for n, x := range d.Nodes {
		add(api.KeyTag, n, x.Tag)
		if x.Id != "" {
			add(api.KeyId, n, x.Id)
		}
		for _, class := range x.Classes {
			add(api.KeyClass, n, class)
		}
	}
	// A kind has one digit, so that the keys rise as kinds and then names do.
	key := func(e api.Entry) string { return fmt.Sprintf("%d%s", e.Kind, e.Name) }
	slices.SortFunc(all, func(a, b api.Entry) int {
		if key(a) < key(b) {
			return -1
		}
		return 1
	})
	return all
}

func sameIndex(a, b []api.Entry) bool {
	return slices.EqualFunc(a, b, func(a, b api.Entry) bool {
		return a.Kind == b.Kind && a.Name == b.Name && slices.Equal(a.Nodes, b.Nodes)
	})
}

// sameDoc: an empty list may be nil or not.
func sameDoc(a, b api.Doc) bool {
	return slices.EqualFunc(a.Nodes, b.Nodes, func(a, b api.Node) bool {
		return a.Up == b.Up && a.Tag == b.Tag && a.Id == b.Id && slices.Equal(a.Classes, b.Classes) && slices.Equal(a.Attrs, b.Attrs)
	})
}

func samePage(a, b api.Page) bool { return sameDoc(a.Doc, b.Doc) && sameIndex(a.Index, b.Index) }

// draw gives numbers for long tests; the same each time.
type draw uint64

func (r *draw) n(n int) int {
	*r = *r*6364136223846793005 + 1442695040888963407
	return int(uint64(*r) >> 33 % uint64(n))
}

// doc draws a document of n elements.
func (r *draw) doc(n int) api.Doc {
	var d api.Doc
	for i := range n {
		x := r.node()
		x.Up = i - 1
		for x.Up > 0 && r.n(2) == 0 {
			x.Up = d.Nodes[x.Up].Up
		}
		d.Nodes = append(d.Nodes, x)
	}
	return d
}

func (r *draw) node() api.Node {
	names := []string{"a", "a-", "a0", "aa", "b", "c"}
	x := api.Node{Up: 7, Tag: names[r.n(6)]}
	if r.n(2) == 0 {
		x.Id = names[r.n(6)]
	}
	for _, class := range names {
		if r.n(4) == 0 {
			x.Classes = append(x.Classes, class)
		}
	}
	if r.n(3) == 0 {
		x.Attrs = []api.Attr{{Name: "a", Value: "b"}}
	}
	return x
}

// given is all that a call of the package can be handed.
type given struct {
	p     api.Page
	n, at int
	e     api.Doc
	x     api.Node
}

type call struct {
	name string
	run  func(g given) (api.Page, api.Errno)
}

// changes are the calls that are handed a page.
func changes() []call {
	return []call{
		{"Insert", func(g given) (api.Page, api.Errno) { return live.Insert(g.p, g.n, g.at, g.e) }},
		{"Remove", func(g given) (api.Page, api.Errno) { return live.Remove(g.p, g.n) }},
		{"Put", func(g given) (api.Page, api.Errno) { return live.Put(g.p, g.n, g.x) }},
	}
}

func calls() []call {
	return append(changes(),
		call{"Open", func(g given) (api.Page, api.Errno) { return live.Open(g.p.Doc) }},
		call{"Insert itself", func(g given) (api.Page, api.Errno) { return live.Insert(g.p, g.n, g.at, g.p.Doc) }},
		call{"Put its own", func(g given) (api.Page, api.Errno) {
			if len(g.p.Doc.Nodes) < 2 {
				return live.Put(g.p, g.n, g.x)
			}
			return live.Put(g.p, g.n, g.p.Doc.Nodes[1])
		}})
}

type bad struct {
	d   api.Doc
	err api.Errno
}

// wrong are documents that are not right.
func wrong() map[string]bad {
	return map[string]bad{
		"nothing":  {api.Doc{}, api.ErrMany},
		"too many": {api.Doc{Nodes: make([]api.Node, 65)}, api.ErrMany},
		"no tag":   {api.Doc{Nodes: []api.Node{{Up: -1}}}, api.ErrForm},
		"up":       {api.Doc{Nodes: []api.Node{{Up: -1, Tag: "a"}, {Up: 1, Tag: "a"}}}, api.ErrForm},
		"up 0":     {api.Doc{Nodes: []api.Node{{Up: 0, Tag: "a"}}}, api.ErrForm},
		"far up":   {api.Doc{Nodes: []api.Node{{Up: -1, Tag: "a"}, {Up: math.MaxInt, Tag: "a"}}}, api.ErrForm},
		"two tops": {api.Doc{Nodes: []api.Node{{Up: -1, Tag: "a"}, {Up: -1, Tag: "a"}}}, api.ErrForm},
		"classes":  {api.Doc{Nodes: []api.Node{{Up: -1, Tag: "a", Classes: []string{"a", "a"}}}}, api.ErrForm},
		"value":    {api.Doc{Nodes: []api.Node{{Up: -1, Tag: "a", Attrs: []api.Attr{{Name: "a", Value: `"`}}}}}, api.ErrForm},
	}
}

// spoilt are indexes that are not what Build makes.
func spoilt(right []api.Entry) map[string][]api.Entry {
	change := func(f func(l []api.Entry) []api.Entry) []api.Entry {
		l := slices.Clone(right)
		for i := range l {
			l[i].Nodes = slices.Clone(l[i].Nodes)
		}
		return f(l)
	}
	all := map[string][]api.Entry{
		"none":                  nil,
		"empty":                 {},
		"without the first one": right[1:],
		"without the last one":  right[:len(right)-1],
		"twice":                 append(slices.Clone(right), right...),
		"one more":              append(slices.Clone(right), api.Entry{}),
		"last twice":            append(slices.Clone(right), right[len(right)-1]),
		"no one has":            append(slices.Clone(right), api.Entry{Kind: api.KeyClass, Name: "z"}),
		"very many":             make([]api.Entry, 1<<16),
	}
	for i := range right {
		all[fmt.Sprint("kind ", i)] = change(func(l []api.Entry) []api.Entry { l[i].Kind++; return l })
		all[fmt.Sprint("name ", i)] = change(func(l []api.Entry) []api.Entry { l[i].Name += "x"; return l })
		all[fmt.Sprint("no nodes ", i)] = change(func(l []api.Entry) []api.Entry { l[i].Nodes = nil; return l })
		all[fmt.Sprint("node ", i)] = change(func(l []api.Entry) []api.Entry { l[i].Nodes[0]++; return l })
		all[fmt.Sprint("last node ", i)] = change(func(l []api.Entry) []api.Entry { l[i].Nodes[len(l[i].Nodes)-1]++; return l })
		all[fmt.Sprint("more nodes ", i)] = change(func(l []api.Entry) []api.Entry { l[i].Nodes = append(l[i].Nodes, 9); return l })
		all[fmt.Sprint("less nodes ", i)] = change(func(l []api.Entry) []api.Entry { l[i].Nodes = l[i].Nodes[1:]; return l })
		if len(right[i].Nodes) > 1 {
			all[fmt.Sprint("nodes fall ", i)] = change(func(l []api.Entry) []api.Entry { slices.Reverse(l[i].Nodes); return l })
		}
		if i > 0 {
			all[fmt.Sprint("order ", i)] = change(func(l []api.Entry) []api.Entry { l[i], l[i-1] = l[i-1], l[i]; return l })
		}
	}
	return all
}

// wantPage: a page comes, of that document, and with its index.
func wantPage(t *testing.T, what string, got api.Page, err api.Errno, d api.Doc) {
	t.Helper()
	if err != api.OK || !samePage(got, page(d)) {
		t.Errorf("G1: %s: %v, error %d; must be %v", what, got, err, page(d))
	}
}

// wantErr: with an error there is no page.
func wantErr(t *testing.T, what string, got api.Page, err, want api.Errno) {
	t.Helper()
	if err != want || !samePage(got, api.Page{}) {
		t.Errorf("G1: %s: %v, error %d; must be %d", what, got, err, want)
	}
}
