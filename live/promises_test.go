package live_test

import (
	"fmt"
	"math"
	"reflect"
	"slices"
	"testing"

	"pathfindery/api"
	"pathfindery/doc"
)

// TestP1 hands every call pages and numbers of every sort: none panics, with an error nothing else comes, and a page that comes is right.
func TestP1(t *testing.T) {
	r := draw(25)
	docs := []api.Doc{readDoc(t, sample), r.doc(64), readDoc(t, "a")}
	for _, w := range wrong() {
		docs = append(docs, w.d)
	}
	nums := []int{math.MinInt, -1, 0, 1, 5, 63, 64, math.MaxInt}
	for i, d := range docs {
		for _, x := range [][]api.Entry{nil, want(d), {{Kind: math.MinInt, Nodes: []int{math.MinInt}}}} {
			for _, e := range docs {
				for k, c := range calls() {
					for m := range nums {
						g := given{p: api.Page{Doc: d, Index: x}, n: nums[m], at: nums[(m+i+k)%len(nums)], e: e}
						got, err := c.run(g)
						if err != api.OK && !samePage(got, api.Page{}) {
							t.Errorf("P1: %s %d %d, document %d: error %d with %v", c.name, g.n, g.at, i, err, got)
						}
						if err == api.OK && (doc.Check(got.Doc) != api.OK || !sameIndex(got.Index, want(got.Doc))) {
							t.Errorf("P1: %s %d %d, document %d: a page that is not right", c.name, g.n, g.at, i)
						}
					}
				}
			}
		}
	}
}

// roomy lays an element's lists down with spare room behind them.
func roomy(x api.Node) api.Node {
	classes := append(append([]string{}, x.Classes...), "spare", "room")
	attrs := append(append([]api.Attr{}, x.Attrs...), api.Attr{Name: "spare"})
	x.Classes, x.Attrs = classes[:len(x.Classes)], attrs[:len(x.Attrs)]
	return x
}

func roomyDoc(d api.Doc) api.Doc {
	nodes := []api.Node{}
	for _, x := range d.Nodes {
		nodes = append(nodes, roomy(x))
	}
	nodes = append(nodes, api.Node{Up: 77, Tag: "spare"}, api.Node{Up: 78, Tag: "room"})
	return api.Doc{Nodes: nodes[:len(d.Nodes)]}
}

func roomyPage(d api.Doc) api.Page {
	entries := []api.Entry{}
	for _, e := range want(d) {
		numbers := append(append([]int{}, e.Nodes...), 77, 78)
		e.Nodes = numbers[:len(e.Nodes)]
		entries = append(entries, e)
	}
	entries = append(entries, api.Entry{Kind: 77, Name: "spare"}, api.Entry{Kind: 78, Name: "room"})
	return api.Page{Doc: roomyDoc(d), Index: entries[:len(entries)-2]}
}

func example(n, at int) given {
	r := draw(26)
	return given{p: roomyPage(r.doc(6)), n: n, at: at, e: roomyDoc(r.doc(3)), x: roomy(r.node())}
}

// wholeNode copies an element with the spare room of its lists.
func wholeNode(x api.Node) api.Node {
	x.Classes = slices.Clone(x.Classes[:cap(x.Classes)])
	x.Attrs = slices.Clone(x.Attrs[:cap(x.Attrs)])
	return x
}

func wholeDoc(d api.Doc) []api.Node {
	var nodes []api.Node
	for _, x := range d.Nodes[:cap(d.Nodes)] {
		nodes = append(nodes, wholeNode(x))
	}
	return nodes
}

// whole copies all that was handed in, with the spare room.
func whole(g given) []any {
	entries := slices.Clone(g.p.Index[:cap(g.p.Index)])
	for i, e := range entries {
		entries[i].Nodes = slices.Clone(e.Nodes[:cap(e.Nodes)])
	}
	return []any{wholeDoc(g.p.Doc), entries, wholeDoc(g.e), wholeNode(g.x)}
}

// eachExample runs every call on numbers that are right and on others.
func eachExample(f func(what string, c call, g given)) {
	for _, c := range calls() {
		for n := -1; n <= 6; n++ {
			for at := -1; at <= 3; at++ {
				f(fmt.Sprint(c.name, " ", n, " ", at), c, example(n, at))
			}
		}
	}
}

// TestP2Read: what is handed in, spare room and all, is as it was after each call.
func TestP2Read(t *testing.T) {
	eachExample(func(what string, c call, g given) {
		before := whole(g)
		c.run(g)
		if !reflect.DeepEqual(before, whole(g)) {
			t.Errorf("P2: %s changes what it is handed", what)
		}
	})
}

func scribbleNode(x *api.Node, word string) {
	x.Up, x.Tag, x.Id = -9, word, word
	for i := range x.Classes[:cap(x.Classes)] {
		x.Classes[:cap(x.Classes)][i] = word
	}
	for i := range x.Attrs[:cap(x.Attrs)] {
		x.Attrs[:cap(x.Attrs)][i] = api.Attr{Name: word, Value: word}
	}
}

// scribble writes over all of a page, spare room too.
func scribble(p api.Page, word string) {
	nodes := p.Doc.Nodes[:cap(p.Doc.Nodes)]
	for i := range nodes {
		scribbleNode(&nodes[i], word)
	}
	entries := p.Index[:cap(p.Index)]
	for i, e := range entries {
		for k := range e.Nodes[:cap(e.Nodes)] {
			e.Nodes[:cap(e.Nodes)][k] = -9
		}
		entries[i].Kind, entries[i].Name = -9, word
	}
}

// TestP2Own: a change of what was handed in is not seen in the answer, and none of the answer in what was handed in.
func TestP2Own(t *testing.T) {
	eachExample(func(what string, c call, g given) {
		must, _ := c.run(example(g.n, g.at))
		got, _ := c.run(g)
		before := whole(g)
		scribble(got, "out")
		if !reflect.DeepEqual(before, whole(g)) {
			t.Errorf("P2: %s: what was handed in sees a change of the answer", what)
		}
		got, _ = c.run(g)
		scribble(g.p, "in")
		scribble(api.Page{Doc: g.e}, "in")
		scribbleNode(&g.x, "in")
		if !samePage(got, must) {
			t.Errorf("P2: %s: the answer sees a change of what was handed in", what)
		}
	})
}

// TestP2Apart: no two lists of an answer share memory, though those that are handed in do.
func TestP2Apart(t *testing.T) {
	shared := api.Node{Tag: "a", Id: "b", Classes: []string{"a", "b", "spare"}[:2], Attrs: []api.Attr{{Name: "k"}, {Name: "l"}, {Name: "spare"}}[:2]}
	d := api.Doc{}
	for i := range 6 {
		shared.Up = []int{-1, 0, 1, 0, 3, 3}[i]
		d.Nodes = append(d.Nodes, shared)
	}
	p := page(d)
	// All entries have the same elements, and here the same memory.
	for i := range p.Index {
		p.Index[i].Nodes = p.Index[0].Nodes
	}
	for _, c := range calls() {
		for n := range 6 {
			got, err := c.run(given{p: p, n: n, e: d, x: shared})
			if err != api.OK {
				continue
			}
			what := fmt.Sprintf("P2: %s %d", c.name, n)
			for i := range got.Doc.Nodes {
				ownNode(got, i)
			}
			for i := range got.Index {
				ownEntry(got, i)
			}
			wantOwn(t, what, got)
			// The other way round too: the spare room of a list may be the next one's memory.
			for i := len(got.Index) - 1; i >= 0; i-- {
				ownEntry(got, i)
			}
			for i := len(got.Doc.Nodes) - 1; i >= 0; i-- {
				ownNode(got, i)
			}
			wantOwn(t, what+", from behind", got)
		}
	}
}

func ownNode(p api.Page, i int) { scribbleNode(&p.Doc.Nodes[i], fmt.Sprint("own", i)) }

func ownEntry(p api.Page, i int) {
	numbers := p.Index[i].Nodes[:cap(p.Index[i].Nodes)]
	for k := range numbers {
		numbers[k] = i
	}
}

func wantOwn(t *testing.T, what string, p api.Page) {
	t.Helper()
	for i, x := range p.Doc.Nodes {
		own := fmt.Sprint("own", i)
		if !slices.Equal(x.Classes, []string{own, own}) || !slices.Equal(x.Attrs, []api.Attr{{Name: own, Value: own}, {Name: own, Value: own}}) {
			t.Errorf("%s: lists of element %d share memory with others: %v", what, i, x)
		}
	}
	for i, e := range p.Index {
		if slices.ContainsFunc(e.Nodes, func(n int) bool { return n != i }) {
			t.Errorf("%s: the numbers of entry %d share memory with others: %v", what, i, e)
		}
	}
}

// TestP2Empty: an empty list may be handed in as nil or not.
func TestP2Empty(t *testing.T) {
	one, two := readDoc(t, "a(b(c) d)"), readDoc(t, "a(b(c) d)")
	for i := range two.Nodes {
		one.Nodes[i].Classes, one.Nodes[i].Attrs = nil, nil
		two.Nodes[i].Classes, two.Nodes[i].Attrs = []string{}, []api.Attr{}
	}
	for _, c := range calls() {
		for n := range 5 {
			a, e := c.run(given{p: page(one), n: n, e: one, x: one.Nodes[0]})
			b, f := c.run(given{p: page(two), n: n, e: two, x: two.Nodes[0]})
			if !samePage(a, b) || e != f {
				t.Errorf("P2: %s %d: %v, error %d, and with nil %v, error %d", c.name, n, b, f, a, e)
			}
		}
	}
}

// TestP3: a call answers the same again, whatever was called between, and in whatever order a map is gone through.
func TestP3(t *testing.T) {
	first := map[string]string{}
	for round := range 10 {
		eachExample(func(what string, c call, g given) {
			p, err := c.run(g)
			got := fmt.Sprint(p, err)
			if round == 0 {
				first[what] = got
			} else if got != first[what] {
				t.Errorf("P3: %s answers %s, and %s ahead of it", what, got, first[what])
			}
			scribble(p, "out")
		})
	}
}
