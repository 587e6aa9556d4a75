package match_test

import (
	"fmt"
	"math"
	"reflect"
	"slices"
	"testing"

	"pathfindery/api"
	"pathfindery/match"
)

// answer is all that a call of the package can answer.
type answer struct {
	list []int
	n    int
	is   bool
	err  api.Errno
}

func same(a, b answer) bool {
	return slices.Equal(a.list, b.list) && a.n == b.n && a.is == b.is && a.err == b.err
}

// ask runs every call.
func ask(d api.Doc, l []api.Path, x api.Test, n int) []answer {
	all := make([]answer, 4)
	all[0].is, all[0].err = match.Test(d, x, n)
	all[1].is, all[1].err = match.Matches(d, l, n)
	all[2].list, all[2].err = match.All(d, l)
	all[3].n, all[3].is, all[3].err = match.Nearest(d, l, n)
	return all
}

// wild are documents and lists of every sort, right and wrong.
func wild(t *testing.T) ([]api.Doc, [][]api.Path) {
	chain, row := api.Doc{}, api.Doc{}
	for i := range 64 {
		chain.Nodes = append(chain.Nodes, api.Node{Up: i - 1, Tag: "a"})
		row.Nodes = append(row.Nodes, api.Node{Up: min(0, i-1), Tag: "a"})
	}
	docs := []api.Doc{{}, {Nodes: []api.Node{}}, readDoc(t, sample), chain, row, {Nodes: make([]api.Node, 3)}, {Nodes: make([]api.Node, 65)},
		{Nodes: []api.Node{{Up: 1, Tag: "a"}, {Up: 0, Tag: "a"}}},
		{Nodes: []api.Node{{Up: -1, Tag: "a"}, {Up: math.MaxInt, Tag: "a"}}},
		{Nodes: []api.Node{{Up: -1, Tag: "a"}, {Up: math.MinInt, Tag: "a"}}},
		{Nodes: []api.Node{{Up: -1, Tag: "a"}, {Up: -1, Tag: "a"}}},
	}
	itself := readList(t, "a:not(b)")
	itself[0].Steps[0].Tests[0].List = itself
	lists := [][]api.Path{nil, {}, {{}}, readList(t, "* * * * *"), readList(t, "* ~ * ~ * ~ * ~ *"), readList(t, "*:nth(1048576n-1048576) + *"), itself,
		{{Steps: make([]api.Step, 2), Links: []int{9}}}, {{Steps: make([]api.Step, 2)}}, {{Steps: make([]api.Step, 1), Links: []int{1}}},
		{{Steps: []api.Step{{Tests: make([]api.Test, 6)}}}}, make([]api.Path, 6),
	}
	return docs, lists
}

// TestP1: no call panics, and with an error, or a false, nothing else comes.
func TestP1(t *testing.T) {
	docs, lists := wild(t)
	for i, d := range docs {
		for k, l := range lists {
			for _, x := range []api.Test{{}, {Kind: math.MaxInt}, {Kind: math.MinInt}, {Kind: api.Not, List: l}, {Kind: api.Has, List: l}, {Kind: api.NthKid, Nth: api.Nth{A: math.MinInt, B: math.MinInt}}} {
				for _, n := range []int{math.MinInt, -1, 0, 1, 7, 63, 64, math.MaxInt} {
					for c, a := range ask(d, l, x, n) {
						if a.err != api.OK && !same(a, answer{err: a.err}) || !a.is && a.n != 0 {
							t.Errorf("P1: call %d, document %d, list %d, element %d: %v", c, i, k, n, a)
						}
					}
				}
			}
		}
	}
}

// TestP1Hard: many steps and lists, with many ways from each to the next, take no long time.
func TestP1Hard(t *testing.T) {
	docs, _ := wild(t)
	chain, row := docs[3], docs[4]
	again := func(link int, x api.Test) []api.Path {
		s := api.Step{Tests: []api.Test{x, x}}
		p := api.Path{Steps: []api.Step{s, s, s, s, s}, Links: []int{link, link, link, link}}
		return []api.Path{p, p, p, p, p}
	}
	from := func(first int) []int {
		var all []int
		for n := first; n < 64; n++ {
			all = append(all, n)
		}
		return all
	}
	for _, c := range []struct {
		d    api.Doc
		link int
		want []int
	}{{chain, api.Below, from(8)}, {chain, api.Later, nil}, {row, api.Below, nil}, {row, api.Later, from(9)}} {
		// Nobody has the class, so that the inner list is passed by all who have four to go on from, and the outer one by those who have eight.
		all := api.Test{Kind: api.Not, List: again(c.link, api.Test{Kind: api.HasClass, Name: "x"})}
		l := again(c.link, api.Test{Kind: api.Is, List: again(c.link, all)})
		if got, err := match.All(c.d, l); err != api.OK || !slices.Equal(got, c.want) {
			t.Errorf("P1: link %d: %v, error %d; must be %v", c.link, got, err, c.want)
		}
	}
}

// roomyDoc lays a document down with spare room behind each list.
func roomyDoc(d api.Doc) api.Doc {
	nodes := []api.Node{}
	for _, x := range d.Nodes {
		classes := append(append([]string{}, x.Classes...), "spare", "room")
		attrs := append(append([]api.Attr{}, x.Attrs...), api.Attr{Name: "spare"})
		x.Classes, x.Attrs = classes[:len(x.Classes)], attrs[:len(x.Attrs)]
		nodes = append(nodes, x)
	}
	nodes = append(nodes, api.Node{Up: 77, Tag: "spare"}, api.Node{Up: 78, Tag: "room"})
	return api.Doc{Nodes: nodes[:len(d.Nodes)]}
}

// wholeDoc copies a document with all spare room.
func wholeDoc(d api.Doc) []api.Node {
	all := slices.Clone(d.Nodes[:cap(d.Nodes)])
	for i, x := range all {
		all[i].Classes = slices.Clone(x.Classes[:cap(x.Classes)])
		all[i].Attrs = slices.Clone(x.Attrs[:cap(x.Attrs)])
	}
	return all
}

// roomy lays a list and all lists in it down with spare room behind them.
func roomy(l []api.Path) []api.Path {
	paths := []api.Path{}
	for _, p := range l {
		steps := []api.Step{}
		for _, s := range p.Steps {
			tests := []api.Test{}
			for _, x := range s.Tests {
				if len(x.List) > 0 {
					x.List = roomy(x.List)
				}
				tests = append(tests, x)
			}
			tests = append(tests, api.Test{Name: "spare"}, api.Test{Name: "room"})
			steps = append(steps, api.Step{Tag: s.Tag, Tests: tests[:len(s.Tests)]})
		}
		steps = append(steps, api.Step{Tag: "spare"})
		links := append(append([]int{}, p.Links...), 77)
		paths = append(paths, api.Path{Steps: steps[:len(p.Steps)], Links: links[:len(p.Links)]})
	}
	paths = append(paths, api.Path{Links: []int{77}})
	return paths[:len(l)]
}

// whole copies a list with all spare room.
func whole(l []api.Path) []api.Path {
	all := slices.Clone(l[:cap(l)])
	for i, p := range all {
		all[i].Links = slices.Clone(p.Links[:cap(p.Links)])
		all[i].Steps = slices.Clone(p.Steps[:cap(p.Steps)])
		for k, s := range all[i].Steps {
			tests := slices.Clone(s.Tests[:cap(s.Tests)])
			for m, x := range tests {
				tests[m].List = whole(x.List)
			}
			all[i].Steps[k].Tests = tests
		}
	}
	return all
}

// TestP2Read: what is handed in, spare room and all, is as it was after each call.
func TestP2Read(t *testing.T) {
	r := draw(10)
	all := shapes(6)
	for range 300 {
		d, l := roomyDoc(r.dressed(all[r.n(len(all))])), roomy(r.list(1))
		x := api.Test{Kind: api.Has, List: roomy(r.list(2))}
		doc, list, inTest := wholeDoc(d), whole(l), whole(x.List)
		ask(d, l, x, r.n(7))
		if !reflect.DeepEqual(doc, wholeDoc(d)) || !reflect.DeepEqual(list, whole(l)) || !reflect.DeepEqual(inTest, whole(x.List)) {
			t.Fatal("P2: a call changes what it is handed")
		}
	}
}

// TestP2Own: the answers of two calls share no memory.
func TestP2Own(t *testing.T) {
	d, l := readDoc(t, sample), readList(t, "*:empty")
	a, _ := match.All(d, l)
	b, _ := match.All(d, l)
	for i := range a[:cap(a)] {
		a[:cap(a)][i] = -9
	}
	if want := []int{1, 3, 4, 6, 7}; !slices.Equal(b, want) {
		t.Errorf("P2: two answers of All share memory: %v", b)
	}
}

// TestP2Empty: an empty list may be handed in as nil or not.
func TestP2Empty(t *testing.T) {
	one := api.Doc{Nodes: []api.Node{{Up: -1, Tag: "a"}, {Tag: "b"}}}
	two := api.Doc{Nodes: []api.Node{{Up: -1, Tag: "a", Classes: []string{}, Attrs: []api.Attr{}}, {Tag: "b", Classes: []string{}, Attrs: []api.Attr{}}}}
	l := []api.Path{{Steps: []api.Step{{Tag: "b"}}}}
	m := []api.Path{{Steps: []api.Step{{Tag: "b", Tests: []api.Test{}}}, Links: []int{}}}
	x, y := api.Test{Kind: api.HasClass, Name: "c"}, api.Test{Kind: api.HasClass, Name: "c", List: []api.Path{}}
	for n := range 3 {
		a, b := ask(one, l, x, n), ask(two, m, y, n)
		if !slices.EqualFunc(a, b, same) {
			t.Errorf("P2: with nil %v, with empty lists %v", a, b)
		}
	}
}

// TestP3: a call answers the same again, though the answers of those ahead were changed, and others were refused.
func TestP3(t *testing.T) {
	first := map[string]string{}
	for round := range 3 {
		docs, lists := wild(t)
		for i, d := range docs {
			for k, l := range lists {
				for n := range 4 {
					key := fmt.Sprint("document ", i, ", list ", k, ", element ", n)
					answers := ask(d, l, api.Test{Kind: api.Not, List: lists[n]}, n)
					got := fmt.Sprint(answers)
					for m := range answers[2].list {
						answers[2].list[m] = -9
					}
					if round == 0 {
						first[key] = got
					} else if got != first[key] {
						t.Errorf("P3: %s: %s, and %s ahead of it", key, got, first[key])
					}
				}
			}
		}
	}
}
