package plain_test

import (
	"slices"
	"testing"

	"pathfindery/api"
	"pathfindery/path"
	"pathfindery/plain"
)

func readList(t *testing.T, s string) []api.Path {
	t.Helper()
	l, err := path.Read(s)
	if err != api.OK {
		t.Fatalf("the list %q can't be read: error %d", s, err)
	}
	return l
}

func shown(l []api.Path) string {
	s, err := path.Show(l)
	if err != api.OK {
		return "(not right)"
	}
	return s
}

// copied is a list of its own, to be changed.
func copied(l []api.Path) []api.Path {
	var all []api.Path
	for _, p := range l {
		c := api.Path{Links: slices.Clone(p.Links)}
		for _, s := range p.Steps {
			step := api.Step{Tag: s.Tag}
			for _, x := range s.Tests {
				x.List = copied(x.List)
				step.Tests = append(step.Tests, x)
			}
			c.Steps = append(c.Steps, step)
		}
		all = append(all, c)
	}
	return all
}

// The model: the chapter's rules, one after the other, on a copy that is changed on the spot. What is the same is told by how it is shown.

func modelOnce(l []api.Path) []api.Path {
	l = copied(l)
	for _, p := range l {
		for _, s := range p.Steps {
			for i, x := range s.Tests {
				s.Tests[i].List = modelOnce(x.List)
			}
		}
	}
	for _, p := range l {
		for i := range p.Steps {
			modelStep(&p.Steps[i])
		}
	}
	return firsts(l, func(p api.Path) string { return shown([]api.Path{p}) })
}

func modelStep(s *api.Step) {
	for i := 0; i < len(s.Tests); {
		x := s.Tests[i]
		come := []api.Test{x}
		if len(x.List) == 1 && len(x.List[0].Steps) == 1 {
			inner := x.List[0].Steps[0]
			if x.Kind == api.Not && inner.Tag == "" && len(inner.Tests) == 1 && inner.Tests[0].Kind == api.Not {
				come = []api.Test{{Kind: api.Is, List: inner.Tests[0].List}}
			}
			tags := inner.Tag == "" || inner.Tag == s.Tag || s.Tag == ""
			if x.Kind == api.Is && tags && len(s.Tests)-1+len(inner.Tests) <= api.MaxTests {
				come = inner.Tests
				if s.Tag == "" {
					s.Tag = inner.Tag
				}
			}
		}
		s.Tests = slices.Replace(s.Tests, i, i+1, come...)
		i += len(come)
	}
	s.Tests = firsts(s.Tests, func(x api.Test) string {
		return shown([]api.Path{{Steps: []api.Step{{Tests: []api.Test{x}}}}})
	})
}

func firsts[T any](l []T, key func(T) string) []T {
	seen := map[string]int{}
	var kept []T
	for _, x := range l {
		if seen[key(x)]++; seen[key(x)] == 1 {
			kept = append(kept, x)
		}
	}
	return kept
}

func modelSize(l []api.Path) int {
	n := 0
	for _, p := range l {
		for _, s := range p.Steps {
			n++
			for _, x := range s.Tests {
				n += 1 + modelSize(x.List)
			}
		}
	}
	return n
}

// draw gives numbers for long tests; the same each time.
type draw uint64

func (r *draw) n(n int) int {
	*r = *r*6364136223846793005 + 1442695040888963407
	return int(uint64(*r) >> 33 % uint64(n))
}

// list draws a right list in which much is the same and much can be made plainer.
func (r *draw) list(deep int) []api.Path {
	var l []api.Path
	for range 1 + r.n(4)*r.n(2)*r.n(2) {
		var p api.Path
		for i := range 1 + r.n(3)*r.n(2)*r.n(2) {
			if i > 0 {
				p.Links = append(p.Links, 1+r.n(4))
			}
			p.Steps = append(p.Steps, r.step(deep))
		}
		l = append(l, p)
	}
	return l
}

func (r *draw) step(deep int) api.Step {
	s := api.Step{Tag: []string{"", "", "", "a", "b"}[r.n(5)]}
	many := []int{0, 1, 1, 2, 3, 6}[r.n(6)]
	for range many {
		s.Tests = append(s.Tests, r.test(deep))
	}
	return s
}

func (r *draw) test(deep int) api.Test {
	if deep < api.MaxDeep && r.n(3) > 0 {
		return api.Test{Kind: []int{api.Not, api.Not, api.Is, api.Is, api.Is, api.Has}[r.n(6)], List: r.list(deep + 1)}
	}
	switch r.n(5) {
	case 0:
		return api.Test{Kind: api.NthKid + r.n(2), Nth: api.Nth{A: r.n(2), B: 1 + r.n(2)}}
	case 1:
		return api.Test{Kind: api.AttrIs + r.n(5), Name: []string{"j", "k"}[r.n(2)], Value: []string{"v", "w"}[r.n(2)]}
	case 2:
		return api.Test{Kind: api.Empty + r.n(2)}
	}
	return api.Test{Kind: api.HasClass + r.n(3), Name: []string{"j", "k", "l"}[r.n(3)]}
}

// doc draws a document of n elements, of the names that the lists ask for.
func (r *draw) doc(n int) api.Doc {
	var d api.Doc
	for i := range n {
		x := api.Node{Up: i - 1, Tag: []string{"a", "b"}[r.n(2)], Id: []string{"", "j", "k"}[r.n(3)]}
		for x.Up > 0 && r.n(2) == 0 {
			x.Up = d.Nodes[x.Up].Up
		}
		x.Classes = [][]string{nil, {"j"}, {"k"}, {"j", "k", "l"}}[r.n(4)]
		x.Attrs = [][]api.Attr{nil, {{Name: "j", Value: "v"}}, {{Name: "j", Value: "v w"}, {Name: "k", Value: "w"}}}[r.n(3)]
		d.Nodes = append(d.Nodes, x)
	}
	return d
}

// wantOnce holds Once against what must come.
func wantOnce(t *testing.T, l []api.Path, want string) {
	t.Helper()
	got, err := plain.Once(l)
	if err != api.OK || shown(got) != want {
		t.Errorf("H2: Once %s: %s, error %d; must be %s", shown(l), shown(got), err, want)
	}
}

// wantPlain holds Plain against what must come.
func wantPlain(t *testing.T, l []api.Path, want string) {
	t.Helper()
	got, err := plain.Plain(l)
	if err != api.OK || shown(got) != want {
		t.Errorf("H3: Plain %s: %s, error %d; must be %s", shown(l), shown(got), err, want)
	}
}
