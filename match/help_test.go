package match_test

import (
	"slices"
	"strings"
	"testing"

	"pathfindery/api"
	"pathfindery/mark"
	"pathfindery/match"
	"pathfindery/path"
)

// The model: what matches, told element by element as the chapter's words have it.

func inList(d api.Doc, l []api.Path, n int) bool {
	return slices.ContainsFunc(l, func(p api.Path) bool { return inPath(d, p.Steps, p.Links, n) })
}

func inPath(d api.Doc, steps []api.Step, links []int, n int) bool {
	last := len(steps) - 1
	if tag := steps[last].Tag; tag != "" && tag != d.Nodes[n].Tag {
		return false
	}
	for _, x := range steps[last].Tests {
		if !passes(d, x, n) {
			return false
		}
	}
	if last == 0 {
		return true
	}
	for m := range d.Nodes {
		if leads(d, links[last-1], m, n) && inPath(d, steps[:last], links[:last-1], m) {
			return true
		}
	}
	return false
}

// leads tells whether a link leads from element m to element n.
func leads(d api.Doc, link, m, n int) bool {
	same := func(k int) bool { return k < n && d.Nodes[k].Up == d.Nodes[n].Up }
	switch link {
	case api.Below:
		return isUnder(d, n, m)
	case api.Kid:
		return d.Nodes[n].Up == m
	case api.Next:
		for k := m + 1; k < n; k++ {
			if same(k) {
				return false
			}
		}
	}
	return same(m)
}

func isUnder(d api.Doc, n, m int) bool {
	up := d.Nodes[n].Up
	return up >= 0 && (up == m || isUnder(d, up, m))
}

func passes(d api.Doc, x api.Test, n int) bool {
	switch x.Kind {
	case api.HasClass:
		return slices.Contains(d.Nodes[n].Classes, x.Name)
	case api.HasId:
		return d.Nodes[n].Id == x.Name
	case api.NthKid, api.NthLast:
		return holds(x.Nth, number(d, n, x.Kind == api.NthLast))
	case api.Empty:
		return !slices.ContainsFunc(d.Nodes, func(y api.Node) bool { return y.Up == n })
	case api.Root:
		return n == 0
	case api.Not:
		return !inList(d, x.List, n)
	case api.Is:
		return inList(d, x.List, n)
	case api.Has:
		for m := range d.Nodes {
			if isUnder(d, m, n) && inList(d, x.List, m) {
				return true
			}
		}
		return false
	}
	for _, a := range d.Nodes[n].Attrs {
		if a.Name == x.Name {
			return isValue(x.Kind, a.Value, x.Value)
		}
	}
	return false
}

func isValue(kind int, value, asked string) bool {
	if kind == api.HasAttr {
		return true
	}
	if kind == api.AttrIs {
		return value == asked
	}
	if asked == "" {
		return false
	}
	for i := range len(value) + 1 {
		end := i + len(asked)
		if end > len(value) || value[i:end] != asked {
			continue
		}
		begins, ends := i == 0, end == len(value)
		word := (begins || value[i-1] == ' ') && (ends || value[end] == ' ') && !strings.Contains(asked, " ")
		if kind == api.AttrHolds || kind == api.AttrBegins && begins || kind == api.AttrEnds && ends || kind == api.AttrWord && word {
			return true
		}
	}
	return false
}

func holds(x api.Nth, i int) bool {
	for k := range 100 {
		if x.A*k+x.B == i {
			return true
		}
	}
	return false
}

func number(d api.Doc, n int, fromLast bool) int {
	i := 1
	for m, x := range d.Nodes {
		if x.Up == d.Nodes[n].Up && (m < n && !fromLast || m > n && fromLast) {
			i++
		}
	}
	return i
}

// What the tests are run on.

func readDoc(t *testing.T, s string) api.Doc {
	t.Helper()
	d, err := mark.Read(s)
	if err != api.OK {
		t.Fatalf("the document %q can't be read: error %d", s, err)
	}
	return d
}

func readList(t *testing.T, s string) []api.Path {
	t.Helper()
	l, err := path.Read(s)
	if err != api.OK {
		t.Fatalf("the list %q can't be read: error %d", s, err)
	}
	return l
}

// shapes are the rows of Ups of all documents of n elements.
func shapes(n int) [][]int {
	if n == 1 {
		return [][]int{{-1}}
	}
	var rows [][]int
	for _, row := range shapes(n - 1) {
		for up := n - 2; up >= 0; up = row[up] {
			rows = append(rows, append(slices.Clone(row), up))
		}
	}
	return rows
}

// draw gives numbers for long tests; the same each time.
type draw uint64

func (r *draw) n(n int) int {
	*r = *r*6364136223846793005 + 1442695040888963407
	return int(uint64(*r) >> 33 % uint64(n))
}

// dressed makes a document of a shape.
func (r *draw) dressed(shape []int) api.Doc {
	var d api.Doc
	for _, up := range shape {
		x := api.Node{Up: up, Tag: []string{"a", "b"}[r.n(2)], Id: []string{"", "", "x", "y"}[r.n(4)]}
		x.Classes = [][]string{nil, {"c"}, {"d"}, {"c", "d"}}[r.n(4)]
		x.Attrs = [][]api.Attr{nil, {{Name: "k"}}, {{Name: "k", Value: "v w"}}, {{Name: "j", Value: "v"}, {Name: "k", Value: "wv"}}}[r.n(4)]
		d.Nodes = append(d.Nodes, x)
	}
	return d
}

// list draws a right list of a few short paths.
func (r *draw) list(deep int) []api.Path {
	var l []api.Path
	for range 1 + r.n(3)*r.n(2) {
		var p api.Path
		for i := range 1 + r.n(4)*r.n(2) {
			if i > 0 {
				p.Links = append(p.Links, 1+r.n(4))
			}
			s := api.Step{Tag: []string{"", "", "a", "b"}[r.n(4)]}
			for range r.n(3) * r.n(2) {
				s.Tests = append(s.Tests, r.test(deep))
			}
			p.Steps = append(p.Steps, s)
		}
		l = append(l, p)
	}
	return l
}

func (r *draw) test(deep int) api.Test {
	kinds := api.Has
	if deep == api.MaxDeep {
		kinds = api.Root
	}
	x := api.Test{Kind: 1 + r.n(kinds)}
	switch {
	case x.Kind == api.HasClass:
		x.Name = []string{"c", "d"}[r.n(2)]
	case x.Kind == api.HasId:
		x.Name = []string{"x", "y"}[r.n(2)]
	case x.Kind <= api.AttrWord:
		x.Name = []string{"j", "k"}[r.n(2)]
		if x.Kind > api.HasAttr {
			x.Value = []string{"", "v", "w", " ", "v w"}[r.n(5)]
		}
	case x.Kind <= api.NthLast:
		x.Nth = api.Nth{A: r.n(5) - 2, B: r.n(5) - 1}
	case x.Kind >= api.Not:
		x.List = r.list(deep + 1)
	}
	return x
}

// wantMatch holds all calls against what must be found.
func wantMatch(t *testing.T, d api.Doc, l []api.Path, want []int) {
	t.Helper()
	s, _ := path.Show(l)
	m, _ := mark.Show(d)
	if got, err := match.All(d, l); err != api.OK || !slices.Equal(got, want) {
		t.Errorf("E4: All %s in %s: %v, error %d; must be %v", s, m, got, err, want)
	}
	for n := range d.Nodes {
		is := slices.Contains(want, n)
		if got, err := match.Matches(d, l, n); err != api.OK || got != is {
			t.Errorf("E4: Matches %s in %s, %d: %v, error %d; must be %v", s, m, n, got, err, is)
		}
		up := n
		for up >= 0 && !slices.Contains(want, up) {
			up = d.Nodes[up].Up
		}
		if got, is, err := match.Nearest(d, l, n); err != api.OK || is != (up >= 0) || got != max(up, 0) {
			t.Errorf("E4: Nearest %s in %s, %d: %d, %v, error %d; must be %d", s, m, n, got, is, err, up)
		}
		if len(l) > 1 || len(l[0].Steps) > 1 || l[0].Steps[0].Tag != "" || len(l[0].Steps[0].Tests) != 1 {
			continue
		}
		if got, err := match.Test(d, l[0].Steps[0].Tests[0], n); err != api.OK || got != is {
			t.Errorf("E2: Test %s in %s, %d: %v, error %d; must be %v", s, m, n, got, err, is)
		}
	}
}

// found is what the model finds.
func found(d api.Doc, l []api.Path) []int {
	var all []int
	for n := range d.Nodes {
		if inList(d, l, n) {
			all = append(all, n)
		}
	}
	return all
}
