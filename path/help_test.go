package path_test

import (
	"fmt"
	"slices"
	"strings"
	"testing"

	"pathfindery/api"
	"pathfindery/path"
)

// has is which fields the tests of a kind have.
type has struct{ name, value, nth, list bool }

func fields(kind int) has {
	switch {
	case kind <= api.HasAttr:
		return has{name: true}
	case kind <= api.AttrWord:
		return has{name: true, value: true}
	case kind <= api.NthLast:
		return has{nth: true}
	case kind <= api.Root:
		return has{}
	}
	return has{list: true}
}

// kinds are all of them, in order.
func kinds() []int {
	var all []int
	for kind := api.HasClass; kind <= api.Has; kind++ {
		all = append(all, kind)
	}
	return all
}

// shown is how a list is shown, told by other means.
func shown(l []api.Path) string {
	var paths []string
	for _, p := range l {
		s := ""
		for i, step := range p.Steps {
			if i > 0 {
				s += map[int]string{api.Below: " ", api.Kid: " > ", api.Next: " + ", api.Later: " ~ "}[p.Links[i-1]]
			}
			if step.Tag == "" {
				s += "*"
			}
			s += step.Tag
			for _, t := range step.Tests {
				s += shownTest(t)
			}
		}
		paths = append(paths, s)
	}
	return strings.Join(paths, ", ")
}

func shownTest(t api.Test) string {
	nth := fmt.Sprintf("%dn%+d", t.Nth.A, t.Nth.B)
	switch t.Kind {
	case api.HasClass:
		return "." + t.Name
	case api.HasId:
		return "#" + t.Name
	case api.HasAttr:
		return "[" + t.Name + "]"
	case api.AttrIs:
		return fmt.Sprintf(`[%s="%s"]`, t.Name, t.Value)
	case api.AttrBegins:
		return fmt.Sprintf(`[%s^="%s"]`, t.Name, t.Value)
	case api.AttrEnds:
		return fmt.Sprintf(`[%s$="%s"]`, t.Name, t.Value)
	case api.AttrHolds:
		return fmt.Sprintf(`[%s*="%s"]`, t.Name, t.Value)
	case api.AttrWord:
		return fmt.Sprintf(`[%s~="%s"]`, t.Name, t.Value)
	case api.NthKid:
		return ":nth(" + nth + ")"
	case api.NthLast:
		return ":last(" + nth + ")"
	case api.Empty:
		return ":empty"
	case api.Root:
		return ":root"
	case api.Not:
		return ":not(" + shown(t.List) + ")"
	case api.Is:
		return ":is(" + shown(t.List) + ")"
	}
	return ":has(" + shown(t.List) + ")"
}

// same: an empty list may be nil or not.
func same(a, b []api.Path) bool {
	return slices.EqualFunc(a, b, func(a, b api.Path) bool {
		return slices.Equal(a.Links, b.Links) && slices.EqualFunc(a.Steps, b.Steps, func(a, b api.Step) bool {
			return a.Tag == b.Tag && slices.EqualFunc(a.Tests, b.Tests, sameTest)
		})
	})
}

func sameTest(a, b api.Test) bool {
	return a.Kind == b.Kind && a.Name == b.Name && a.Value == b.Value && a.Nth == b.Nth && same(a.List, b.List)
}

// one is a list of one path of one step.
func one(tag string, tests ...api.Test) []api.Path {
	return []api.Path{{Steps: []api.Step{{Tag: tag, Tests: tests}}}}
}

// class and not are short forms of tests.
func class(name string) api.Test { return api.Test{Kind: api.HasClass, Name: name} }

func not(l []api.Path) api.Test { return api.Test{Kind: api.Not, List: l} }

// times is a list again and again.
func times[T any](n int, x T) []T {
	l := []T{}
	for range n {
		l = append(l, x)
	}
	return l
}

// row is a path of n steps, with a link less.
func row(n int) api.Path {
	return api.Path{Steps: times(n, api.Step{Tag: "a"}), Links: times(n-1, api.Below)}
}

// nested is lists that lie in one another so deep, by tests of one kind.
func nested(deep, kind int) []api.Path {
	if deep == 1 {
		return one("a")
	}
	return one("a", api.Test{Kind: kind, List: nested(deep-1, kind)})
}

// draw gives numbers for long tests; the same each time.
type draw uint64

func (d *draw) n(n int) int {
	*d = *d*6364136223846793005 + 1442695040888963407
	return int(uint64(*d) >> 33 % uint64(n))
}

// list draws a right list.
func (d *draw) list(deep int) []api.Path {
	var l []api.Path
	for range 1 + d.n(4)*d.n(4)/3*d.n(2) {
		l = append(l, d.path(deep))
	}
	return l[:min(len(l), api.MaxList)]
}

func (d *draw) path(deep int) api.Path {
	var p api.Path
	for i := range 1 + d.n(5)*d.n(3)/2 {
		if i > 0 {
			p.Links = append(p.Links, 1+d.n(4))
		}
		p.Steps = append(p.Steps, d.step(deep))
	}
	return p
}

func (d *draw) step(deep int) api.Step {
	s := api.Step{Tag: []string{"", "a", "b-1", "abcdefghijkl"}[d.n(4)]}
	for range d.n(7) * d.n(3) / 2 {
		s.Tests = append(s.Tests, d.test(deep))
	}
	return s
}

func (d *draw) test(deep int) api.Test {
	kinds := api.Has
	if deep == api.MaxDeep {
		kinds = api.Root
	}
	t := api.Test{Kind: 1 + d.n(kinds)}
	f := fields(t.Kind)
	if f.name {
		t.Name = []string{"a", "b", "c-9", "abcdefghijkl"}[d.n(4)]
	}
	if f.value {
		t.Value = []string{"", "a", " ", `](#.[)= '\~*>, a`, "0123456789abcdef"}[d.n(5)]
	}
	if f.nth {
		t.Nth = api.Nth{A: []int{0, 1, -2, 1 << 20, -1 << 20}[d.n(5)], B: []int{0, 3, -4, 1 << 20, -1 << 20}[d.n(5)]}
	}
	if f.list {
		t.List = d.list(deep + 1)
	}
	return t
}

func wantCheck(t *testing.T, what string, l []api.Path, want api.Errno) {
	t.Helper()
	if got := path.Check(l); got != want {
		t.Errorf("D1: %s: error %d, must be %d", what, got, want)
	}
	if s, err := path.Show(l); err != want || want != api.OK && s != "" {
		t.Errorf("D2: %s: Show: %.80q, error %d, must be %d", what, s, err, want)
	}
	if len(l) != 1 {
		return
	}
	if w, err := path.Weigh(l[0]); err != want || want != api.OK && w != (api.Weight{}) {
		t.Errorf("D3: %s: Weigh: %v, error %d, must be %d", what, w, err, want)
	}
}
