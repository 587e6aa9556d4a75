package path_test

import (
	"fmt"
	"math"
	"testing"

	"pathfindery/api"
)

func TestD1Right(t *testing.T) {
	wantCheck(t, "any element", one(""), api.OK)
	wantCheck(t, "a tag", one("a"), api.OK)
	for _, link := range []int{api.Below, api.Kid, api.Next, api.Later} {
		wantCheck(t, fmt.Sprint("link ", link), []api.Path{{Steps: row(2).Steps, Links: []int{link}}}, api.OK)
	}
	for _, kind := range kinds() {
		wantCheck(t, fmt.Sprint("kind ", kind), one("", right(kind)), api.OK)
	}
}

// right is a right test of a kind, with all fields that it has.
func right(kind int) api.Test {
	x, f := api.Test{Kind: kind}, fields(kind)
	if f.name {
		x.Name = "abcdefghijkl"
	}
	if f.value {
		x.Value = "0123456789abcdef"
	}
	if f.nth {
		x.Nth = api.Nth{A: -1 << 20, B: 1 << 20}
	}
	if f.list {
		x.List = one("")
	}
	return x
}

// TestD1Fields gives the tests of each kind fields that they have, and such that they have not.
func TestD1Fields(t *testing.T) {
	for _, kind := range kinds() {
		f := fields(kind)
		form := func(there bool) api.Errno {
			if there {
				return api.OK
			}
			return api.ErrForm
		}
		for _, c := range []struct {
			what   string
			change func(x *api.Test)
			want   api.Errno
		}{
			{"a name", func(x *api.Test) { x.Name = "a" }, form(f.name)},
			{"no name", func(x *api.Test) { x.Name = "" }, form(!f.name)},
			{"a wrong name", func(x *api.Test) { x.Name = "A" }, api.ErrForm},
			{"a wild name", func(x *api.Test) { x.Name = "*" }, api.ErrForm},
			{"a long name", func(x *api.Test) { x.Name = "abcdefghijklm" }, api.ErrForm},
			{"a value", func(x *api.Test) { x.Value = "A b" }, form(f.value)},
			{"no value", func(x *api.Test) { x.Value = "" }, api.OK},
			{"a wrong value", func(x *api.Test) { x.Value = `"` }, api.ErrForm},
			{"a long value", func(x *api.Test) { x.Value = "0123456789abcdefg" }, api.ErrForm},
			{"a byte 127", func(x *api.Test) { x.Value = "\x7f" }, api.ErrForm},
			{"A", func(x *api.Test) { x.Nth.A = 1 }, form(f.nth)},
			{"B", func(x *api.Test) { x.Nth.B = -1 }, form(f.nth)},
			{"no count", func(x *api.Test) { x.Nth = api.Nth{} }, api.OK},
			{"a list", func(x *api.Test) { x.List = one("a") }, form(f.list)},
			{"an empty list", func(x *api.Test) { x.List = []api.Path{} }, map[bool]api.Errno{true: api.ErrMany}[f.list]},
			{"no list", func(x *api.Test) { x.List = nil }, map[bool]api.Errno{true: api.ErrMany}[f.list]},
		} {
			x := right(kind)
			c.change(&x)
			wantCheck(t, fmt.Sprintf("kind %d with %s", kind, c.what), one("a", x), c.want)
			wantCheck(t, fmt.Sprintf("kind %d with %s, behind", kind, c.what), one("a", class("b"), x, class("c")), c.want)
			wantCheck(t, fmt.Sprintf("kind %d with %s, in a list", kind, c.what), one("a", not(one("b", x))), c.want)
		}
	}
}

func TestD1Counts(t *testing.T) {
	for _, n := range []int{math.MinInt, -1<<20 - 1, 1<<20 + 1, math.MaxInt} {
		for _, x := range []api.Nth{{A: n}, {B: n}, {A: n, B: n}, {A: 1, B: n}, {A: n, B: 1}} {
			for _, kind := range kinds() {
				y := right(kind)
				y.Nth = x
				want := api.ErrForm
				if fields(kind).nth {
					want = api.ErrRange
				}
				wantCheck(t, fmt.Sprintf("kind %d with count %v", kind, x), one("", y), want)
				if kind != api.Not && !fields(kind).list {
					wantCheck(t, fmt.Sprintf("kind %d with count %v, deep", kind, x), one("", not(one("", not(one("", y))))), want)
				}
			}
		}
	}
	for _, n := range []int{-1 << 20, 1 << 20} {
		wantCheck(t, fmt.Sprint("A ", n), one("", api.Test{Kind: api.NthKid, Nth: api.Nth{A: n}}), api.OK)
		wantCheck(t, fmt.Sprint("B ", n), one("", api.Test{Kind: api.NthLast, Nth: api.Nth{B: n}}), api.OK)
	}
}

func TestD1Kinds(t *testing.T) {
	for _, kind := range []int{math.MinInt, -15, -1, 0, 16, 17, 29, 256 + api.Not, math.MaxInt} {
		for _, x := range []api.Test{{Kind: kind}, {Kind: kind, Name: "a"}, {Kind: kind, Name: "A", Value: "\n", Nth: api.Nth{A: math.MaxInt}}, {Kind: kind, List: []api.Path{}}, {Kind: kind, List: one("a")}, {Kind: kind, List: make([]api.Path, 9)}, {Kind: kind, List: nested(9, kind)}} {
			wantCheck(t, fmt.Sprint("kind ", kind), one("a", x), api.ErrKind)
			wantCheck(t, fmt.Sprint("kind ", kind, " behind"), one("a", class("b"), x), api.ErrKind)
			wantCheck(t, fmt.Sprint("kind ", kind, " in a list"), one("a", not(one("a", not(one("b", x))))), api.ErrKind)
			wantCheck(t, fmt.Sprint("kind ", kind, " in the last path"), append(one("a"), one("a", x)...), api.ErrKind)
		}
	}
	for _, link := range []int{math.MinInt, -1, 0, 5, 6, 256 + api.Kid, math.MaxInt} {
		first, last := row(3), row(3)
		first.Links[0], last.Links[1] = link, link
		for _, p := range []api.Path{first, last} {
			wantCheck(t, fmt.Sprint("link ", link), []api.Path{p}, api.ErrKind)
			wantCheck(t, fmt.Sprint("link ", link, " in the last path"), []api.Path{row(5), p}, api.ErrKind)
			wantCheck(t, fmt.Sprint("link ", link, " in a list"), one("a", not([]api.Path{p})), api.ErrKind)
		}
	}
}

func TestD1Tags(t *testing.T) {
	for _, tag := range []string{"*", "A", "1", "-", " ", "a b", "a.b", "abcdefghijklm", "\x00", "é"} {
		last := row(3)
		last.Steps[2].Tag = tag
		wantCheck(t, "tag "+tag, one(tag), api.ErrForm)
		wantCheck(t, "tag behind "+tag, []api.Path{last}, api.ErrForm)
		wantCheck(t, "tag in a list "+tag, one("a", not(one(tag))), api.ErrForm)
		wantCheck(t, "tag in the last path "+tag, append(one("a"), one(tag)...), api.ErrForm)
	}
	wantCheck(t, "a long tag", one("abcdefghijkl"), api.OK)
}

func TestD1Many(t *testing.T) {
	for n, want := range map[int]api.Errno{0: api.ErrMany, 1: api.OK, 2: api.OK, 4: api.OK, 5: api.OK, 6: api.ErrMany, 7: api.ErrMany, 1000: api.ErrMany} {
		l := times(n, row(1))
		wantCheck(t, fmt.Sprint(n, " paths"), l, want)
		wantCheck(t, fmt.Sprint(n, " paths in a list"), one("a", class("b"), not(l)), want)
	}
	wantCheck(t, "no list", nil, api.ErrMany)
	for n, want := range map[int]api.Errno{1: api.OK, 2: api.OK, 4: api.OK, 5: api.OK, 6: api.ErrMany, 7: api.ErrMany, 1000: api.ErrMany} {
		wantCheck(t, fmt.Sprint(n, " steps"), []api.Path{row(n)}, want)
		wantCheck(t, fmt.Sprint(n, " steps in the last path"), []api.Path{row(1), row(n)}, want)
		wantCheck(t, fmt.Sprint(n, " steps in a list"), one("", not([]api.Path{row(n)})), want)
	}
	wantCheck(t, "no steps", []api.Path{{}}, api.ErrMany)
	wantCheck(t, "no steps, a link", []api.Path{{Links: []int{api.Kid}}}, api.ErrMany)
	for n, want := range map[int]api.Errno{0: api.OK, 1: api.OK, 5: api.OK, 6: api.OK, 7: api.ErrMany, 8: api.ErrMany, 1000: api.ErrMany} {
		p := row(3)
		p.Steps[2].Tests = times(n, class("b"))
		wantCheck(t, fmt.Sprint(n, " tests"), []api.Path{p}, want)
		wantCheck(t, fmt.Sprint(n, " tests in a list"), one("", not([]api.Path{p})), want)
	}
	for steps := 1; steps <= 5; steps++ {
		for links := range 7 {
			want := api.ErrMany
			if links == steps-1 {
				want = api.OK
			}
			p := api.Path{Steps: row(steps).Steps, Links: times(links, api.Kid)}
			wantCheck(t, fmt.Sprint(steps, " steps, links ", links), []api.Path{p}, want)
			wantCheck(t, fmt.Sprint(steps, " steps, links in a list ", links), one("", not([]api.Path{row(2), p})), want)
		}
	}
}

func TestD1Deep(t *testing.T) {
	for _, kind := range kinds() {
		for deep := 1; deep <= 9; deep++ {
			want := api.OK
			if deep > 1 && !fields(kind).list {
				want = api.ErrForm
			} else if deep > 3 {
				want = api.ErrMany
			}
			if kind := kind; fields(kind).name && deep > 1 {
				wantCheck(t, fmt.Sprintf("kind %d, named, %d deep", kind, deep), one("a", api.Test{Kind: kind, Name: "a", List: nested(deep-1, kind)}), want)
			}
			wantCheck(t, fmt.Sprintf("kind %d, %d deep", kind, deep), nested(deep, kind), want)
			if deep < 3 || want != api.OK {
				continue
			}
			wantCheck(t, fmt.Sprintf("kind %d, %d deep and one", kind, deep), one("a", not(nested(deep, kind))), api.ErrMany)
			wantCheck(t, fmt.Sprintf("kind %d, %d deep, behind", kind, deep), append(one("a"), nested(deep, kind)...), api.OK)
		}
	}
}

// TestD1Unseen: a list is looked at only where there is one; any other is refused, whatever lies in it.
func TestD1Unseen(t *testing.T) {
	for what, l := range map[string][]api.Path{"many": make([]api.Path, 99), "no steps": {{}}, "deep": nested(9, api.Is), "no kind": one("a", api.Test{Kind: 99}), "no form": one("A"), "no count": one("", api.Test{Kind: api.NthKid, Nth: api.Nth{A: math.MaxInt}})} {
		for _, kind := range kinds() {
			if x := right(kind); !fields(kind).list {
				x.List = l
				wantCheck(t, fmt.Sprintf("kind %d with a list, %s", kind, what), one("a", x), api.ErrForm)
				wantCheck(t, fmt.Sprintf("kind %d with a list in a list, %s", kind, what), one("a", not(one("", x))), api.ErrForm)
			}
		}
	}
}

// TestD1Order: of two faults the one that is named first is told, wherever they stand.
func TestD1Order(t *testing.T) {
	faults := []struct {
		err api.Errno
		l   []api.Path
	}{
		{api.ErrMany, []api.Path{{}}},
		{api.ErrMany, one("a", times(7, class("b"))...)},
		{api.ErrMany, one("a", not(nil))},
		{api.ErrMany, []api.Path{row(6)}},
		{api.ErrMany, []api.Path{{Steps: row(2).Steps}}},
		{api.ErrKind, []api.Path{{Steps: row(2).Steps, Links: []int{9}}}},
		{api.ErrKind, one("a", api.Test{Kind: 0})},
		{api.ErrKind, one("a", api.Test{Kind: 99})},
		{api.ErrForm, one("A")},
		{api.ErrForm, one("a", class(""))},
		{api.ErrForm, one("a", api.Test{Kind: api.Root, List: one("a")})},
		{api.ErrForm, one("a", api.Test{Kind: api.Empty, Nth: api.Nth{A: math.MaxInt}})},
		{api.ErrRange, one("a", api.Test{Kind: api.NthKid, Nth: api.Nth{A: math.MaxInt}})},
		{api.ErrRange, one("a", api.Test{Kind: api.NthLast, Nth: api.Nth{B: math.MinInt}})},
		{api.OK, one("a")},
	}
	for i, x := range faults {
		for k, y := range faults {
			want := x.err
			if k < i {
				want = y.err
			}
			what := fmt.Sprintf("faults %d and %d", i, k)
			wantCheck(t, what+" in a list", append(append([]api.Path{}, x.l...), y.l...), want)
			wantCheck(t, what+", one within", append(one("a", not(y.l)), x.l...), want)
			wantCheck(t, what+", one deep within", append(one("a", not(one("a", not(y.l)))), x.l...), want)
			wantCheck(t, what+" in two tests", one("a", not(x.l), class("b"), not(y.l)), want)
			p := row(2)
			p.Steps[0].Tests, p.Steps[1].Tests = []api.Test{not(x.l)}, []api.Test{not(one("", not(y.l)))}
			wantCheck(t, what+" in two steps", []api.Path{p}, want)
			if want == x.err && x.err != api.OK && len(x.l[0].Steps) == 1 && len(x.l[0].Steps[0].Tests) < 6 {
				z := one(x.l[0].Steps[0].Tag, append([]api.Test{not(y.l)}, x.l[0].Steps[0].Tests...)...)
				wantCheck(t, what+" in one step", z, want)
			}
		}
	}
	wantCheck(t, "a wrong name and a wrong count in one test", one("", api.Test{Kind: api.NthKid, Name: "a", Nth: api.Nth{A: math.MaxInt}}), api.ErrForm)
	wantCheck(t, "no kind and a wrong name", one("", api.Test{Kind: 16, Name: "A"}), api.ErrKind)
}
