package doc_test

import (
	"fmt"
	"math"
	"reflect"
	"slices"
	"testing"

	"pathfindery/api"
	"pathfindery/doc"
)

// given is all that a call of the package can be handed.
type given struct {
	d, e api.Doc
	x    api.Node
}

// answer is all that one can answer.
type answer struct {
	doc  api.Doc
	list []int
	num  int
	err  api.Errno
}

type call struct {
	name string
	run  func(g given, n, at int) answer
}

func calls() []call {
	return []call{
		{"Check", func(g given, n, at int) (a answer) { a.err = doc.Check(g.d); return }},
		{"Kids", func(g given, n, at int) (a answer) { a.list, a.err = doc.Kids(g.d, n); return }},
		{"Under", func(g given, n, at int) (a answer) { a.num, a.err = doc.Under(g.d, n); return }},
		{"Part", func(g given, n, at int) (a answer) { a.doc, a.err = doc.Part(g.d, n); return }},
		{"Insert", func(g given, n, at int) (a answer) { a.doc, a.err = doc.Insert(g.d, n, at, g.e); return }},
		{"Insert itself", func(g given, n, at int) (a answer) { a.doc, a.err = doc.Insert(g.d, n, at, g.d); return }},
		{"Remove", func(g given, n, at int) (a answer) { a.doc, a.err = doc.Remove(g.d, n); return }},
		{"Put", func(g given, n, at int) (a answer) { a.doc, a.err = doc.Put(g.d, n, g.x); return }},
		{"Put its own", func(g given, n, at int) (a answer) { a.doc, a.err = doc.Put(g.d, n, g.d.Nodes[1]); return }},
	}
}

func sameAnswer(a, b answer) bool {
	return same(a.doc, b.doc) && slices.Equal(a.list, b.list) && a.num == b.num && a.err == b.err
}

// roomy lays an element's lists down with spare room behind them.
func roomy(x api.Node) api.Node {
	classes, attrs := []string{}, []api.Attr{}
	classes = append(append(classes, x.Classes...), "spare", "room")
	attrs = append(append(attrs, x.Attrs...), api.Attr{Name: "spare", Value: "room"})
	x.Classes, x.Attrs = classes[:len(x.Classes)], attrs[:len(x.Attrs)]
	return x
}

func roomyDoc(d api.Doc) api.Doc {
	nodes := []api.Node{}
	for _, x := range d.Nodes {
		nodes = append(nodes, roomy(x))
	}
	nodes = append(nodes, node(77, "spare", "room"), node(78, "spare", "room"))
	return api.Doc{Nodes: nodes[:len(d.Nodes)]}
}

// wholeNode copies an element with the spare room of its lists.
func wholeNode(x api.Node) api.Node {
	x.Classes = slices.Clone(x.Classes[:cap(x.Classes)])
	x.Attrs = slices.Clone(x.Attrs[:cap(x.Attrs)])
	return x
}

func wholeDoc(d api.Doc) []api.Node {
	var nodes []api.Node
	for _, x := range d.Nodes[:cap(d.Nodes)] {
		nodes = append(nodes, wholeNode(x))
	}
	return nodes
}

func whole(g given) []any { return []any{wholeDoc(g.d), wholeDoc(g.e), wholeNode(g.x)} }

func scribbleNode(x *api.Node, word string) {
	x.Up, x.Tag, x.Id = -9, word, word
	for i := range x.Classes[:cap(x.Classes)] {
		x.Classes[:cap(x.Classes)][i] = word
	}
	for i := range x.Attrs[:cap(x.Attrs)] {
		x.Attrs[:cap(x.Attrs)][i] = api.Attr{Name: word, Value: word}
	}
}

func scribbleDoc(d api.Doc, word string) {
	nodes := d.Nodes[:cap(d.Nodes)]
	for i := range nodes {
		scribbleNode(&nodes[i], word)
	}
}

func example() given {
	return given{
		d: roomyDoc(flat(trees(6, "x")[17])),
		e: roomyDoc(flat(trees(3, "y")[1])),
		x: roomy(dressed("new", 5)),
	}
}

// TestP1 hands every call numbers and documents of every sort: none panics, and with an error nothing else comes.
func TestP1(t *testing.T) {
	nums := []int{math.MinInt, -2, -1, 0, 1, 2, 5, 6, 63, 64, math.MaxInt}
	docs := []api.Doc{example().d, {}, {Nodes: []api.Node{}}, row(64), chain(64), row(65), {Nodes: make([]api.Node, 3)},
		doc1(node(1, "a"), node(0, "a")), doc1(node(-1, "a"), node(1, "a")), doc1(node(-1, "a"), node(math.MaxInt, "a")), doc1(node(-1, "a"), node(math.MinInt, "a"))}
	for _, d := range docs {
		for _, e := range docs {
			for _, c := range calls() {
				if c.name == "Put its own" && len(d.Nodes) < 2 {
					continue
				}
				for _, n := range nums {
					for _, at := range nums {
						a := c.run(given{d, e, api.Node{}}, n, at)
						if a.err != api.OK && !sameAnswer(a, answer{err: a.err}) {
							t.Errorf("P1: %s %d %d: error %d with %v", c.name, n, at, a.err, a)
						}
						if len(a.doc.Nodes) > 0 && doc.Check(a.doc) != api.OK {
							t.Errorf("P1: %s %d %d answers a document that is not right", c.name, n, at)
						}
					}
				}
			}
		}
	}
}

// TestP2Read: what is handed in, spare room and all, is as it was after each call.
func TestP2Read(t *testing.T) {
	for _, c := range calls() {
		for n := -1; n <= 6; n++ {
			for at := -1; at <= 3; at++ {
				g := example()
				before := whole(g)
				c.run(g, n, at)
				if !reflect.DeepEqual(before, whole(g)) {
					t.Errorf("P2: %s %d %d changes what it is handed", c.name, n, at)
				}
			}
		}
	}
}

// TestP2Own: a change of what was handed in is not seen in the answer, and none of the answer in what was handed in.
func TestP2Own(t *testing.T) {
	for _, c := range calls() {
		for n := range 6 {
			for at := range 3 {
				g := example()
				got, want := c.run(g, n, at), c.run(example(), n, at)
				scribbleDoc(g.d, "in")
				scribbleDoc(g.e, "in")
				scribbleNode(&g.x, "in")
				if !sameAnswer(got, want) {
					t.Errorf("P2: %s %d %d: the answer sees a change of what was handed in", c.name, n, at)
				}
				g = example()
				got = c.run(g, n, at)
				before := whole(g)
				scribbleDoc(got.doc, "out")
				for i := range got.list[:cap(got.list)] {
					got.list[:cap(got.list)][i] = -9
				}
				if !reflect.DeepEqual(before, whole(g)) {
					t.Errorf("P2: %s %d %d: what was handed in sees a change of the answer", c.name, n, at)
				}
			}
		}
	}
}

// TestP2Apart: no two lists of an answer share memory, though those that are handed in do.
func TestP2Apart(t *testing.T) {
	classes := []string{"a", "b", "spare"}[:2]
	attrs := []api.Attr{{Name: "k"}, {Name: "l"}, {Name: "spare"}}[:2]
	shared := api.Node{Tag: "a", Classes: classes, Attrs: attrs}
	d := api.Doc{}
	for i := range 6 {
		shared.Up = []int{-1, 0, 1, 0, 3, 3}[i]
		d.Nodes = append(d.Nodes, shared)
	}
	for _, c := range calls() {
		for n := range 6 {
			got := c.run(given{d, d, shared}, n, 0).doc.Nodes
			for i := range got {
				scribbleNode(&got[i], fmt.Sprint("own", i))
			}
			wantOwn(t, fmt.Sprintf("P2: %s %d", c.name, n), got)
			// The other way round too: the spare room of a list may be the next one's memory.
			for i := len(got) - 1; i >= 0; i-- {
				scribbleNode(&got[i], fmt.Sprint("own", i))
			}
			wantOwn(t, fmt.Sprintf("P2: %s %d, from behind", c.name, n), got)
		}
	}
}

func wantOwn(t *testing.T, what string, nodes []api.Node) {
	t.Helper()
	for i, x := range nodes {
		own := fmt.Sprint("own", i)
		if !slices.Equal(x.Classes, []string{own, own}) || !slices.Equal(x.Attrs, []api.Attr{{Name: own, Value: own}, {Name: own, Value: own}}) {
			t.Errorf("%s: lists of element %d share memory with others: %v", what, i, x)
		}
	}
}

// TestP2Empty: an empty list may be handed in as nil or not.
func TestP2Empty(t *testing.T) {
	one, two := chain(4), chain(4)
	for i := range two.Nodes {
		one.Nodes[i].Classes, one.Nodes[i].Attrs = nil, nil
		two.Nodes[i].Classes, two.Nodes[i].Attrs = []string{}, []api.Attr{}
	}
	for _, c := range calls() {
		for n := range 4 {
			a, b := c.run(given{one, one, one.Nodes[0]}, n, 0), c.run(given{two, two, two.Nodes[0]}, n, 0)
			if !sameAnswer(a, b) {
				t.Errorf("P2: %s %d: %v, and with nil %v", c.name, n, b, a)
			}
		}
	}
}

// TestP3: a call answers the same again, whatever was called between.
func TestP3(t *testing.T) {
	first := map[string]answer{}
	for round := range 3 {
		for n := -1; n <= 6; n++ {
			for at := -1; at <= 3; at++ {
				for _, c := range calls() {
					key := fmt.Sprint(c.name, n, at)
					got := c.run(example(), n, at)
					if round == 0 {
						first[key] = got
					} else if !sameAnswer(got, first[key]) {
						t.Errorf("P3: %s answers %v, and %v ahead of it", key, got, first[key])
					}
				}
			}
		}
	}
}
