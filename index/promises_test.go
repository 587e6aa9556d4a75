package index_test

import (
	"fmt"
	"math"
	"reflect"
	"slices"
	"testing"

	"pathfindery/api"
	"pathfindery/index"
)

// TestP1: no call panics, and with an error nothing else comes.
func TestP1(t *testing.T) {
	itself := readList(t, "a:not(b)")
	itself[0].Steps[0].Tests[0].List = itself
	lists := [][]api.Path{nil, {{}}, itself, readList(t, "x"), readList(t, "* * * * *"), {{Steps: make([]api.Step, 2), Links: []int{9}}}, make([]api.Path, 6)}
	docs := []api.Doc{readDoc(t, sample), readDoc(t, "a")}
	for _, c := range wrong() {
		docs = append(docs, c.d)
	}
	for i, d := range docs {
		x, err := index.Build(d)
		if err != api.OK && len(x) != 0 {
			t.Errorf("P1: Build of document %d: %v, error %d", i, x, err)
		}
		for k, l := range lists {
			for _, entries := range [][]api.Entry{x, nil, make([]api.Entry, 600), {{Kind: math.MinInt, Nodes: []int{math.MinInt}}}} {
				if n, err := index.Find(api.Page{Doc: d, Index: entries}, l); err != api.OK && len(n) != 0 {
					t.Errorf("P1: Find in document %d, list %d: %v, error %d", i, k, n, err)
				}
				for _, kind := range []int{math.MinInt, 0, api.KeyTag, math.MaxInt} {
					if n, err := index.Look(entries, kind, ""); err != api.OK && len(n) != 0 {
						t.Errorf("P1: Look: %v, error %d", n, err)
					}
				}
			}
		}
	}
}

// roomy lays a page down with spare room behind each list.
func roomy(d api.Doc) api.Page {
	nodes, entries := []api.Node{}, []api.Entry{}
	for _, x := range d.Nodes {
		classes := append(append([]string{}, x.Classes...), "spare", "room")
		attrs := append(append([]api.Attr{}, x.Attrs...), api.Attr{Name: "spare"})
		x.Classes, x.Attrs = classes[:len(x.Classes)], attrs[:len(x.Attrs)]
		nodes = append(nodes, x)
	}
	nodes = append(nodes, api.Node{Up: 77, Tag: "spare"}, api.Node{Up: 78, Tag: "room"})
	for _, e := range want(d) {
		numbers := append(append([]int{}, e.Nodes...), 77, 78)
		e.Nodes = numbers[:len(e.Nodes)]
		entries = append(entries, e)
	}
	entries = append(entries, api.Entry{Kind: 77, Name: "spare"})
	return api.Page{Doc: api.Doc{Nodes: nodes[:len(d.Nodes)]}, Index: entries[:len(entries)-1]}
}

// whole copies a page with all spare room.
func whole(p api.Page) api.Page {
	nodes := slices.Clone(p.Doc.Nodes[:cap(p.Doc.Nodes)])
	for i, x := range nodes {
		nodes[i].Classes = slices.Clone(x.Classes[:cap(x.Classes)])
		nodes[i].Attrs = slices.Clone(x.Attrs[:cap(x.Attrs)])
	}
	entries := slices.Clone(p.Index[:cap(p.Index)])
	for i, e := range entries {
		entries[i].Nodes = slices.Clone(e.Nodes[:cap(e.Nodes)])
	}
	return api.Page{Doc: api.Doc{Nodes: nodes}, Index: entries}
}

// TestP2Read: what is handed in, spare room and all, is as it was after each call.
func TestP2Read(t *testing.T) {
	r := draw(13)
	for i := range 100 {
		p := roomy(r.doc(1 + i%9))
		if i%4 == 0 {
			p.Index = p.Index[1:]
		}
		before := whole(p)
		index.Build(p.Doc)
		index.Look(p.Index, 1+i%3, "a")
		for _, s := range texts() {
			l := readList(t, s)
			index.Find(p, l)
			if again := readList(t, s); !reflect.DeepEqual(l, again) {
				t.Fatalf("P2: Find changes the list %s", s)
			}
		}
		if !reflect.DeepEqual(before, whole(p)) {
			t.Fatal("P2: a call changes what it is handed")
		}
	}
}

// scribble writes over all of a list, spare room too.
func scribble(l []int, n int) {
	for i := range l[:cap(l)] {
		l[:cap(l)][i] = n
	}
}

// TestP2Apart: no two lists that Build answers share memory, those of two answers neither.
func TestP2Apart(t *testing.T) {
	r := draw(14)
	d := r.doc(40)
	a, _ := index.Build(d)
	b, _ := index.Build(d)
	all := append(slices.Clone(a), b...)
	check := func() {
		t.Helper()
		for i, e := range all {
			if slices.ContainsFunc(e.Nodes, func(n int) bool { return n != i }) {
				t.Errorf("P2: the numbers of entry %d share memory with others", i)
			}
		}
	}
	for i, e := range all {
		scribble(e.Nodes, i)
	}
	check()
	for i := len(all) - 1; i >= 0; i-- {
		scribble(all[i].Nodes, i)
	}
	check()
	for i := range a[:cap(a)] {
		a[:cap(a)][i] = api.Entry{}
	}
	if slices.ContainsFunc(b, func(e api.Entry) bool { return e.Kind == 0 }) {
		t.Error("P2: two answers of Build share memory")
	}
}

// TestP2Own: a change of what was handed in is not seen in the answer, and none of the answer in what was handed in.
func TestP2Own(t *testing.T) {
	d := readDoc(t, sample)
	x := want(d)
	got, _ := index.Look(x, api.KeyTag, "item")
	scribble(got, -9)
	if !same(x, want(d)) {
		t.Error("P2: the entries see a change of what Look answers")
	}
	got, _ = index.Look(x, api.KeyTag, "item")
	scribble(x[0].Nodes, -9)
	if !slices.Equal(got, []int{1, 2, 4}) {
		t.Error("P2: what Look answers sees a change of the entries")
	}
	p := api.Page{Doc: d, Index: want(d)}
	found, _ := index.Find(p, readList(t, "item"))
	scribble(found, -9)
	if !same(p.Index, want(d)) {
		t.Error("P2: the index sees a change of what Find answers")
	}
	built, _ := index.Build(d)
	d.Nodes[1].Tag, d.Nodes[1].Classes[0] = "x", "x"
	if !same(built, p.Index) {
		t.Error("P2: what Build answers sees a change of the document")
	}
}

// TestP3: a call answers the same again, whatever was called between, and in whatever order a map is gone through.
func TestP3(t *testing.T) {
	first := map[string]string{}
	for round := range 20 {
		r := draw(15)
		for i := range 20 {
			d := r.doc(1 + i)
			x, err := index.Build(d)
			got := fmt.Sprint(x, err)
			for _, s := range texts() {
				n, err := index.Find(api.Page{Doc: d, Index: x}, readList(t, s))
				m, wrong := index.Look(x, 1+i%4, "a")
				got += fmt.Sprint(n, err, m, wrong)
				scribble(n, -9)
				scribble(m, -9)
			}
			key := fmt.Sprint("document ", i)
			if round == 0 {
				first[key] = got
			} else if got != first[key] {
				t.Errorf("P3: %s: %s, and %s ahead of it", key, got, first[key])
			}
			for _, e := range x {
				scribble(e.Nodes, -9)
			}
		}
	}
}
