package plain_test

import (
	"fmt"
	"math"
	"slices"
	"testing"

	"pathfindery/api"
	"pathfindery/match"
	"pathfindery/path"
	"pathfindery/plain"
)

// TestExample8 is the document's eighth example.
func TestExample8(t *testing.T) {
	wantPlain(t, readList(t, "*:not(*:not(x:empty))"), "x:empty")
}

func TestH1(t *testing.T) {
	for s, want := range map[string]int{
		"*":                                     1,
		"a":                                     1,
		"a.b":                                   2,
		"a#b.c[d]:empty":                        5,
		"a b > c + d ~ e":                       5,
		"a, b":                                  2,
		"a.b c.d, e.f":                          6,
		"*:not(a)":                              3,
		"*:is(a, b.c)":                          5,
		"*:has(a > b.c):nth(2n+1)":              6,
		"*:not(*:is(*:empty)), a":               7,
		"a:is(b.c:has(d.e)):not(f), *:has(*)":   12,
		"*.a.a.a.a.a.a, *.a.a.a.a.a.a, *, *, *": 17,
	} {
		if n, err := plain.Size(readList(t, s)); err != api.OK || n != want {
			t.Errorf("H1: Size %s: %d, error %d; must be %d", s, n, err, want)
		}
	}
	r := draw(41)
	for range 2000 {
		l := r.list(1)
		if n, err := plain.Size(l); err != api.OK || n != modelSize(l) {
			t.Fatalf("H1: Size %s: %d, error %d; must be %d", shown(l), n, err, modelSize(l))
		}
	}
}

// wrong are lists that are not right, with what Check tells of them.
func wrong() map[string]struct {
	l   []api.Path
	err api.Errno
} {
	type bad = struct {
		l   []api.Path
		err api.Errno
	}
	one := func(tag string, tests ...api.Test) []api.Path {
		return []api.Path{{Steps: []api.Step{{Tag: tag, Tests: tests}}}}
	}
	is := func(l []api.Path) api.Test { return api.Test{Kind: api.Is, List: l} }
	itself := one("", is(one("a")))
	itself[0].Steps[0].Tests[0].List = itself
	return map[string]bad{
		"no list":         {nil, api.ErrMany},
		"empty list":      {[]api.Path{}, api.ErrMany},
		"no steps":        {[]api.Path{{}}, api.ErrMany},
		"six paths":       {slices.Repeat(one("a"), 6), api.ErrMany},
		"six steps":       {[]api.Path{{Steps: make([]api.Step, 6), Links: []int{1, 1, 1, 1, 1}}}, api.ErrMany},
		"no link":         {[]api.Path{{Steps: make([]api.Step, 2)}}, api.ErrMany},
		"a link more":     {[]api.Path{{Steps: make([]api.Step, 1), Links: []int{1}}}, api.ErrMany},
		"seven tests":     {one("", slices.Repeat([]api.Test{{Kind: api.Empty}}, 7)...), api.ErrMany},
		"no list in Is":   {one("", is(nil)), api.ErrMany},
		"too deep":        {one("", is(one("", is(one("", is(one("a"))))))), api.ErrMany},
		"itself":          {itself, api.ErrMany},
		"kind":            {one("", api.Test{Kind: 16}), api.ErrKind},
		"kind within":     {one("", is(one("", api.Test{}))), api.ErrKind},
		"link":            {[]api.Path{{Steps: make([]api.Step, 2), Links: []int{5}}}, api.ErrKind},
		"tag":             {one("A"), api.ErrForm},
		"name":            {one("", api.Test{Kind: api.HasClass}), api.ErrForm},
		"field":           {one("", api.Test{Kind: api.Empty, Name: "a"}), api.ErrForm},
		"list":            {one("", api.Test{Kind: api.Empty, List: one("a")}), api.ErrForm},
		"value within":    {one("", is(one("", api.Test{Kind: api.AttrIs, Name: "a", Value: `"`}))), api.ErrForm},
		"count":           {one("", api.Test{Kind: api.NthKid, Nth: api.Nth{A: math.MinInt}}), api.ErrRange},
		"count within":    {one("", is(one("", api.Test{Kind: api.NthLast, Nth: api.Nth{B: 1<<20 + 1}}))), api.ErrRange},
		"kind and count":  {one("A", api.Test{Kind: 0}, api.Test{Kind: api.NthKid, Nth: api.Nth{A: math.MaxInt}}), api.ErrKind},
		"same and beyond": {slices.Repeat(one("", is(one("a"))), 6), api.ErrMany},
	}
}

func TestH1Errors(t *testing.T) {
	for what, c := range wrong() {
		if n, err := plain.Size(c.l); err != c.err || n != 0 {
			t.Errorf("H1: Size, %s: %d, error %d; must be %d", what, n, err, c.err)
		}
		if l, err := plain.Once(c.l); err != c.err || len(l) != 0 {
			t.Errorf("H2: Once, %s: %v, error %d; must be %d", what, l, err, c.err)
		}
		if l, err := plain.Plain(c.l); err != c.err || len(l) != 0 {
			t.Errorf("H3: Plain, %s: %v, error %d; must be %d", what, l, err, c.err)
		}
	}
}

// once is what Once makes of a list, and Plain.
type once struct{ s, once, plain string }

func wantAll(t *testing.T, cases []once) {
	t.Helper()
	for _, c := range cases {
		wantOnce(t, readList(t, c.s), c.once)
		wantPlain(t, readList(t, c.s), c.plain)
	}
}

// stay are lists that are plain.
func stay(texts ...string) []once {
	var cases []once
	for _, s := range texts {
		cases = append(cases, once{s, s, s})
	}
	return cases
}

// TestH2Not: a Not in a Not.
func TestH2Not(t *testing.T) {
	wantAll(t, []once{
		{"*:not(*:not(a))", "*:is(a)", "a"},
		{"b:not(*:not(a))", "b:is(a)", "b:is(a)"},
		{"a:not(*:not(a))", "a:is(a)", "a"},
		{"*:not(*:not(a, b))", "*:is(a, b)", "*:is(a, b)"},
		{"*:not(*:not(a > b))", "*:is(a > b)", "*:is(a > b)"},
		{"*:not(*:not(*))", "*:is(*)", "*"},
		{"*.x:not(*:not(*.y.z)).u", "*.x:is(*.y.z).u", "*.x.y.z.u"},
		{"a ~ *:not(*:not(*.y)) b", "a ~ *:is(*.y) b", "a ~ *.y b"},
		{"a, *:not(*:not(*.y)), b", "a, *:is(*.y), b", "a, *.y, b"},
		{"*:has(*:not(a)):not(*:not(a))", "*:has(*:not(a)):is(a)", "a:has(*:not(a))"},
	})
	wantAll(t, stay(
		"*:not(a)", "*:not(*)", "*:not(*.a)", "*:not(*:has(a))", "*:not(*:is(a, b))", "*:not(*:is(a > b))",
		"*:not(a:not(b))", "*:not(*.x:not(b))", "*:not(*:not(b).x)", "*:not(*:not(a):not(b))",
		"*:not(*:not(a), b)", "*:not(*:not(a), *:not(b))", "*:not(a *:not(b))", "*:not(*:not(b) > a)", "*:not(* > *:not(b))",
		"*:has(*:not(a))", "*:has(*:not(*.a.b))", "a:has(*)",
	))
}

// TestH2Is: an Is of one step.
func TestH2Is(t *testing.T) {
	wantAll(t, []once{
		{"*:is(*)", "*", "*"},
		{"*:is(a)", "a", "a"},
		{"a:is(*)", "a", "a"},
		{"a:is(a)", "a", "a"},
		{"*:is(a.x)", "a.x", "a.x"},
		{"a:is(*.x)", "a.x", "a.x"},
		{"a:is(a.x#y)", "a.x#y", "a.x#y"},
		{"*.u:is(*.x.y).v", "*.u.x.y.v", "*.u.x.y.v"},
		{"*:is(*.x):is(*.y)", "*.x.y", "*.x.y"},
		{"*:is(a):is(b)", "a:is(b)", "a:is(b)"},
		{"*:is(a):is(a.x):is(b.y)", "a.x:is(b.y)", "a.x:is(b.y)"},
		{"*:is(a, b):is(b):is(a)", "b:is(a, b):is(a)", "b:is(a, b):is(a)"},
		{"*:is(*.x):is(a):is(*.y)", "a.x.y", "a.x.y"},
		{"*:is(*:not(a))", "*:not(a)", "*:not(a)"},
		{"*:is(*:has(a > b))", "*:has(a > b)", "*:has(a > b)"},
		{"*:is(*:is(a, b))", "*:is(a, b)", "*:is(a, b)"},
		{"*:is(*:is(a))", "a", "a"},
		{"*:is(*:is(a.x).y).z", "a.x.y.z", "a.x.y.z"},
		{"b:is(*:is(a.x).y).z", "b:is(a.x.y).z", "b:is(a.x.y).z"},
		{"* > *:is(a) ~ b:is(*.x) *:is(*)", "* > a ~ b.x *", "* > a ~ b.x *"},
		{"x, *:is(a), y:is(b), *:is(*.c)", "x, a, y:is(b), *.c", "x, a, y:is(b), *.c"},
	})
	wantAll(t, stay("b:is(a)", "a:is(aa)", "aa:is(a)", "*:is(a, b)", "*:is(a b)", "*:is(* + *.x)", "a:is(*.x, *.y)", "a:is(b.x).y", "*:has(a)", "*:has(*.x)"))
}

// TestH2Inner: lists in tests are made plainer first, in Not, Is and Has.
func TestH2Inner(t *testing.T) {
	wantAll(t, []once{
		{"*:not(*:is(a))", "*:not(a)", "*:not(a)"},
		{"*:has(*:is(a))", "*:has(a)", "*:has(a)"},
		{"*:not(*.x.x)", "*:not(*.x)", "*:not(*.x)"},
		{"*:has(a, b, a)", "*:has(a, b)", "*:has(a, b)"},
		{"*:is(a, a)", "a", "a"},
		{"*:is(a.x, *:is(a.x))", "a.x", "a.x"},
		{"*:not(*:not(*.x), *:not(*.x.x))", "*:is(*.x)", "*.x"},
		{"*:not(*:not(a):not(a, a))", "*:is(a)", "a"},
		{"*:has(a:has(*.x.x))", "*:has(a:has(*.x))", "*:has(a:has(*.x))"},
		{"*:has(a > *:is(b)), *:has(a > b)", "*:has(a > b)", "*:has(a > b)"},
		{"*:has(*:is(a)):has(a)", "*:has(a)", "*:has(a)"},
		{"*.p.q.r:is(*.s.s.t.u)", "*.p.q.r.s.t.u", "*.p.q.r.s.t.u"},
	})
}

// TestH2Many: no step comes to more than MaxTests tests, counted as they stand when the test's turn comes.
func TestH2Many(t *testing.T) {
	wantAll(t, []once{
		{"a.p.q.r:is(*.s.t.u)", "a.p.q.r.s.t.u", "a.p.q.r.s.t.u"},
		{"a:is(*.p.q.r.s.t.u)", "a.p.q.r.s.t.u", "a.p.q.r.s.t.u"},
		{"a.p.q:is(*.r.s).t.u", "a.p.q.r.s.t.u", "a.p.q.r.s.t.u"},
		{"a.p.q.r.s.t:is(*.u)", "a.p.q.r.s.t.u", "a.p.q.r.s.t.u"},
		{"a.p.q.r.s.t:is(a)", "a.p.q.r.s.t", "a.p.q.r.s.t"},
		// The Is behind counts one, though nothing is to come of it.
		{"*:is(*.a.b.c.d.e):is(*)", "*.a.b.c.d.e", "*.a.b.c.d.e"},
		{"*:is(*.a.b.c.d.e.f):is(*)", "*:is(*.a.b.c.d.e.f)", "*.a.b.c.d.e.f"},
		{"*:is(*):is(*.a.b.c.d.e.f)", "*.a.b.c.d.e.f", "*.a.b.c.d.e.f"},
		{"*:is(*.a.b.c):is(*.d.e.f)", "*.a.b.c.d.e.f", "*.a.b.c.d.e.f"},
		{"*:is(*.a.b.c):is(*.d.e.f.g)", "*.a.b.c:is(*.d.e.f.g)", "*.a.b.c:is(*.d.e.f.g)"},
		{"*:is(*.a.b.c.d):is(*.e.f.g).h", "*.a.b.c.d:is(*.e.f.g).h", "*.a.b.c.d:is(*.e.f.g).h"},
		// What is the same counts too, ahead and behind, as long as it stands there.
		{"*.a:is(*.a.b):is(*.c.d.e)", "*.a.b.c.d.e", "*.a.b.c.d.e"},
		{"*.a:is(*.a.b):is(*.c.d.e.f)", "*.a.b:is(*.c.d.e.f)", "*.a.b.c.d.e.f"},
		{"*:is(*.a.b.c.d).x.x.x", "*:is(*.a.b.c.d).x", "*.a.b.c.d.x"},
		{"*.x.x.x:is(*.a.b.c.d)", "*.x:is(*.a.b.c.d)", "*.x.a.b.c.d"},
		{"*.a.b.c:is(*.a.b.c.d)", "*.a.b.c:is(*.a.b.c.d)", "*.a.b.c:is(*.a.b.c.d)"},
		// A step that stays in its Is gives no Tag.
		{"*.p.q.r:is(a.s.t.u.v):is(b)", "b.p.q.r:is(a.s.t.u.v)", "b.p.q.r:is(a.s.t.u.v)"},
	})
	wantAll(t, stay("a.p.q.r:is(*.s.t.u.v)", "a.p.q.r:is(*.s.t).u.v", "a:is(*.p.q.r.s.t.u).v", "a.p.q.r.s.t:is(*.u.v)", "*.p.q.r.s.t:is(a.u.v)"))
}

// TestH2Same: of tests and paths that are the same the first one stays.
func TestH2Same(t *testing.T) {
	wantAll(t, []once{
		{"a.b.b", "a.b", "a.b"},
		{"*.b.a.b.c.a", "*.b.a.c", "*.b.a.c"},
		{"*:nth(2n+1):nth(2n+1)", "*:nth(2n+1)", "*:nth(2n+1)"},
		{`*[k="v"][k="v"][k]`, `*[k="v"][k]`, `*[k="v"][k]`},
		{"*:has(a > b):empty:has(a > b)", "*:has(a > b):empty", "*:has(a > b):empty"},
		{"*.x:is(*.x.y)", "*.x.y", "*.x.y"},
		{"*.x:is(*.y.x).y", "*.x.y", "*.x.y"},
		{"*:is(a, b):not(*:not(a, b))", "*:is(a, b)", "*:is(a, b)"},
		{"a, a", "a", "a"},
		{"b, a, b, c, a", "b, a, c", "b, a, c"},
		{"a > b, a b, a > b", "a > b, a b", "a > b, a b"},
		{"a.x.x, a.x", "a.x", "a.x"},
		{"a, *:is(a), *:not(*:not(a))", "a, *:is(a)", "a"},
		{"* a:is(*) > b, * a > b", "* a > b", "* a > b"},
	})
	wantAll(t, stay(
		"*.a#a[a]", "*.a.b, *.b.a", `*[k="v"][k^="v"][k$="v"][k*="v"][k~="v"]`, `*[k="v"][k="w"][j="v"][k=""]`,
		"*:nth(2n+1):nth(2n-1):nth(1n+1):last(2n+1)", "*:empty:root", "*:not(a):has(a)", "*:has(a):has(b)", "*:has(a, b):has(b, a)", "*:has(a):has(a, b)",
		"*:has(a b):has(a > b):has(a + b):has(a ~ b)", "*:has(a):has(*.a):has(*)", "*:has(a):has(a a)", "a, b, *", "a b, a > b, a + b, a ~ b", "a, a a, a a a", "a b, b a", "a, a.a, a.a.b, a.b",
		"*:has(*:has(a)):has(*:has(b))", "*:not(a.x > b, c):not(a.x > b, d)",
	))
}

// TestH2Empty: nil and an empty list are the same, in what is held against each other too.
func TestH2Empty(t *testing.T) {
	has := func(l []api.Path) api.Test { return api.Test{Kind: api.Has, List: l} }
	none := []api.Path{{Steps: []api.Step{{Tag: "a"}}}}
	empty := []api.Path{{Steps: []api.Step{{Tag: "a", Tests: []api.Test{}}}, Links: []int{}}}
	wantOnce(t, append(copied(none), empty...), "a")
	wantOnce(t, []api.Path{{Steps: []api.Step{{Tests: []api.Test{has(none), has(empty), {Kind: api.Root}, {Kind: api.Root, List: []api.Path{}}}}}}}, "*:has(a):root")
	wantPlain(t, append(copied(empty), none...), "a")
}

// TestH2Model: Once is what the rules, taken one after the other, make of a list.
func TestH2Model(t *testing.T) {
	r := draw(42)
	changed := 0
	for range 6000 {
		l := r.list(1)
		want := modelOnce(l)
		if shown(l) != shown(want) {
			changed++
		}
		wantOnce(t, l, shown(want))
		if t.Failed() {
			return
		}
	}
	if changed < 2000 {
		t.Errorf("the lists are too plain: %d change", changed)
	}
}

// TestH3: Plain is Once, again and again; and some lists need it several times.
func TestH3(t *testing.T) {
	r := draw(43)
	most := 0
	for range 5000 {
		l := r.list(1)
		now := l
		for times := 0; ; times++ {
			next, err := plain.Once(now)
			if err != api.OK {
				t.Fatalf("H2: Once %s: error %d", shown(now), err)
			}
			if shown(next) == shown(now) {
				most = max(most, times)
				break
			}
			now = next
		}
		wantPlain(t, l, shown(now))
		if t.Failed() {
			return
		}
	}
	if most < 3 {
		t.Errorf("no list needs Once more than %d times", most)
	}
}

// TestH3Again: lists that need Once several times, and come to rest.
func TestH3Again(t *testing.T) {
	wantAll(t, []once{
		{"*:not(*:not(a)), *:is(a), a", "*:is(a), a", "a"},
		{"*:has(*:is(*.x)):has(*.x):not(*:not(*.y))", "*:has(*.x):is(*.y)", "*:has(*.x).y"},
		{"*:is(*:not(*.a)):not(*:not(*.b))", "*:not(*.a):is(*.b)", "*:not(*.a).b"},
		{"*:not(*:not(a)):not(*:not(b))", "*:is(a):is(b)", "a:is(b)"},
		{"*:not(*:not(*.a.b.c.d)):not(*:not(*.a.b.c.d.e))", "*:is(*.a.b.c.d):is(*.a.b.c.d.e)", "*.a.b.c.d:is(*.a.b.c.d.e)"},
	})
}

// TestH4: plainer lists are right, match the same elements, are smaller whenever they are others, and what is plain stays.
func TestH4(t *testing.T) {
	r := draw(44)
	var docs []api.Doc
	for i := range 6 {
		docs = append(docs, r.doc(3+3*i))
	}
	for range 1500 {
		l := r.list(1)
		for name, call := range map[string]func([]api.Path) ([]api.Path, api.Errno){"Once": plain.Once, "Plain": plain.Plain} {
			got, err := call(l)
			if err != api.OK || path.Check(got) != api.OK {
				t.Fatalf("H4: %s %s: %s, error %d", name, shown(l), shown(got), err)
			}
			if before, after := modelSize(l), modelSize(got); after > before || after == before && shown(got) != shown(l) {
				t.Errorf("H4: %s %s: %s, of %d steps and tests, which were %d", name, shown(l), shown(got), after, before)
			}
			for _, d := range docs {
				was, _ := match.All(d, l)
				is, err := match.All(d, got)
				if err != api.OK || !slices.Equal(was, is) {
					t.Errorf("H4: %s %s: %s matches %v, and must match %v", name, shown(l), shown(got), is, was)
				}
			}
		}
		got, _ := plain.Plain(l)
		wantOnce(t, got, shown(got))
		wantPlain(t, got, shown(got))
		if t.Failed() {
			return
		}
	}
}

// TestH2Bounds: lists as long as they may be, of which much is the same.
func TestH2Bounds(t *testing.T) {
	row := func(tests ...api.Test) api.Path {
		s := api.Step{Tests: tests}
		return api.Path{Steps: []api.Step{s, s, s, s, s}, Links: []int{1, 2, 3, 4}}
	}
	var classes []api.Test
	for i := range api.MaxTests {
		classes = append(classes, api.Test{Kind: api.HasClass, Name: fmt.Sprint("c", i)})
	}
	p, q := row(classes...), row(slices.Repeat([]api.Test{{Kind: api.Root}}, api.MaxTests)...)
	roots := "*:root *:root > *:root + *:root ~ *:root"
	wantOnce(t, []api.Path{p, q, p, q, p}, shown([]api.Path{p})+", "+roots)
	wantOnce(t, []api.Path{q, q, p, q, q}, roots+", "+shown([]api.Path{p}))
	wantPlain(t, []api.Path{q, q, q, q, q}, roots)
	five := []api.Path{p, p, p, p, p}
	for i := range five {
		five[i].Links = []int{1, 2, 3, 1 + i%4}
		five[i].Steps = slices.Clone(p.Steps)
		five[i].Steps[4].Tests = classes[i:]
	}
	wantOnce(t, five, shown(five))
	wantPlain(t, five, shown(five))
}
