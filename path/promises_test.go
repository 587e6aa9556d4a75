package path_test

import (
	"fmt"
	"math"
	"reflect"
	"runtime/debug"
	"slices"
	"strings"
	"testing"

	"pathfindery/api"
	"pathfindery/path"
)

// TestP1Itself: a list that holds itself is more than MaxDeep deep.
func TestP1Itself(t *testing.T) {
	for _, kind := range kinds() {
		x := right(kind)
		l := times(5, api.Path{Links: times(4, api.Kid)})
		x.List = l
		for i := range l {
			l[i].Steps = times(5, api.Step{Tests: times(6, x)})
		}
		want := api.ErrForm
		if fields(kind).list {
			want = api.ErrMany
		}
		wantCheck(t, fmt.Sprintf("P1: kind %d in itself", kind), l, want)
		wantCheck(t, fmt.Sprintf("P1: kind %d in itself, one path", kind), l[:1], want)
	}
}

// TestP1Full: a list that has as many of everything as there may be is looked through.
func TestP1Full(t *testing.T) {
	full := func(x api.Test) []api.Path {
		return times(5, api.Path{Steps: times(5, api.Step{Tag: "a", Tests: times(6, x)}), Links: times(4, api.Later)})
	}
	l := full(not(full(not(full(class("b"))))))
	if err := path.Check(l); err != api.OK {
		t.Errorf("D1: a full list: error %d", err)
	}
	w, err := path.Weigh(l[0])
	if want := (api.Weight{Tests: 27000, Tags: 5 + 30*5 + 30*30*5}); w != want || err != api.OK {
		t.Errorf("D3: a full list: %v, error %d; must be %v", w, err, want)
	}
	half := full(not(full(class("b"))))
	wantBoth(t, half, shown(half))
	wantCheck(t, "a full list in a list", one("a", not(l)), api.ErrMany)
}

// TestP1Deep: lists within lists, however many the text has, take little of the stack.
func TestP1Deep(t *testing.T) {
	defer debug.SetMaxStack(debug.SetMaxStack(8 << 20))
	for _, begin := range []string{"a:not(", "*:is(", "a b:has("} {
		deep := strings.Repeat(begin, 1<<18)
		wantRefused(t, deep)
		wantRefused(t, deep+"a"+strings.Repeat(")", 1<<18))
	}
	x := one("a")
	for range 1 << 18 {
		x = one("a", not(x))
	}
	wantCheck(t, "P1: a deep list", x, api.ErrMany)
}

// TestP1Wild hands every call lists with drawn faults: none panics, and with an error nothing else comes.
func TestP1Wild(t *testing.T) {
	r := draw(5)
	for range 3000 {
		l := r.list(1)
		for range 1 + r.n(3) {
			spoil(&r, l)
		}
		err := path.Check(l)
		s, showErr := path.Show(l)
		if showErr != err || err != api.OK && s != "" || err == api.OK && s != shown(l) {
			t.Errorf("P1: Check tells %d, Show %d and %.80q", err, showErr, s)
		}
		for _, p := range l {
			if w, e := path.Weigh(p); e != path.Check([]api.Path{p}) || e != api.OK && w != (api.Weight{}) {
				t.Errorf("P1: Weigh tells %v, error %d", w, e)
			}
		}
	}
}

// spoil changes something of a list, right or not.
func spoil(r *draw, l []api.Path) {
	nums := []int{math.MinInt, -1, 0, 3, 9, 13, 16, math.MaxInt}
	p := &l[r.n(len(l))]
	switch r.n(3) {
	case 0:
		p.Links = append(p.Links, nums[r.n(len(nums))])[r.n(2):]
	case 1:
		p.Steps = p.Steps[:r.n(len(p.Steps)+1)]
	}
	for i := range p.Steps {
		for k := range p.Steps[i].Tests {
			x := &p.Steps[i].Tests[k]
			switch r.n(6) {
			case 0:
				x.Kind = nums[r.n(len(nums))]
			case 1:
				x.Nth.B = nums[r.n(len(nums))]
			case 2:
				x.List = times(r.n(9), api.Path{})
			}
		}
	}
}

// roomy lays a list and all lists in it down with spare room behind them.
func roomy(l []api.Path) []api.Path {
	paths := []api.Path{}
	for _, p := range l {
		steps := []api.Step{}
		for _, s := range p.Steps {
			tests := []api.Test{}
			for _, x := range s.Tests {
				if len(x.List) > 0 {
					x.List = roomy(x.List)
				}
				tests = append(tests, x)
			}
			tests = append(tests, class("spare"), class("room"))
			steps = append(steps, api.Step{Tag: s.Tag, Tests: tests[:len(s.Tests)]})
		}
		steps = append(steps, api.Step{Tag: "spare"}, api.Step{Tag: "room"})
		links := append(append([]int{}, p.Links...), 77, 78)
		paths = append(paths, api.Path{Steps: steps[:len(p.Steps)], Links: links[:len(p.Links)]})
	}
	paths = append(paths, row(1), row(2))
	return paths[:len(l)]
}

// whole copies a list with all spare room.
func whole(l []api.Path) []api.Path {
	all := slices.Clone(l[:cap(l)])
	for i, p := range all {
		all[i].Links = slices.Clone(p.Links[:cap(p.Links)])
		all[i].Steps = slices.Clone(p.Steps[:cap(p.Steps)])
		for k, s := range all[i].Steps {
			tests := slices.Clone(s.Tests[:cap(s.Tests)])
			for m, x := range tests {
				tests[m].List = whole(x.List)
			}
			all[i].Steps[k].Tests = tests
		}
	}
	return all
}

// scribble writes over all of a list, its spare room and the lists in it too.
func scribble(l []api.Path, n int) {
	word := fmt.Sprint("own", n)
	for i := range l[:cap(l)] {
		p := &l[:cap(l)][i]
		for k := range p.Links[:cap(p.Links)] {
			p.Links[:cap(p.Links)][k] = n
		}
		for k := range p.Steps[:cap(p.Steps)] {
			s := &p.Steps[:cap(p.Steps)][k]
			s.Tag = word
			for m := range s.Tests[:cap(s.Tests)] {
				x := &s.Tests[:cap(s.Tests)][m]
				x.Kind, x.Name, x.Value, x.Nth = n, word, word, api.Nth{A: n, B: n}
				scribble(x.List, n)
			}
		}
	}
}

const twice = `a.b[c="d"] > a.b:nth(2n+1):is(a.b > a.b:not(a.b > a.b, a.b > a.b)), a.b[c="d"] > a.b:nth(2n+1):is(a.b > a.b:not(a.b > a.b, a.b > a.b))`

// TestP2Read: what is handed in, spare room and all, is as it was after each call.
func TestP2Read(t *testing.T) {
	r := draw(6)
	for range 300 {
		l := roomy(r.list(1))
		if r.n(2) == 0 {
			spoil(&r, l)
		}
		before := whole(l)
		path.Check(l)
		path.Show(l)
		for _, p := range l {
			path.Weigh(p)
		}
		if !reflect.DeepEqual(before, whole(l)) {
			t.Fatalf("P2: a call changes what it is handed: %v", l)
		}
	}
}

// lists are all lists of an answer: of paths, of steps, of tests and of links, each as something that writes and one that looks.
type list struct {
	write func(n int)
	is    func(n int) bool
}

func lists(l []api.Path) []list {
	all := []list{{
		func(n int) {
			for i := range l[:cap(l)] {
				l[:cap(l)][i].Steps = make([]api.Step, n)
			}
		},
		func(n int) bool {
			return !slices.ContainsFunc(l, func(p api.Path) bool { return len(p.Steps) != n })
		},
	}}
	for _, p := range l {
		all = append(all, list{
			func(n int) {
				for i := range p.Links[:cap(p.Links)] {
					p.Links[:cap(p.Links)][i] = n
				}
			},
			func(n int) bool { return !slices.ContainsFunc(p.Links, func(m int) bool { return m != n }) },
		}, list{
			func(n int) {
				for i := range p.Steps[:cap(p.Steps)] {
					p.Steps[:cap(p.Steps)][i].Tag = fmt.Sprint(n)
				}
			},
			func(n int) bool {
				return !slices.ContainsFunc(p.Steps, func(s api.Step) bool { return s.Tag != fmt.Sprint(n) })
			},
		})
		for _, s := range p.Steps {
			all = append(all, list{
				func(n int) {
					for i := range s.Tests[:cap(s.Tests)] {
						s.Tests[:cap(s.Tests)][i].Kind = n
					}
				},
				func(n int) bool { return !slices.ContainsFunc(s.Tests, func(x api.Test) bool { return x.Kind != n }) },
			})
			for _, x := range s.Tests {
				if len(x.List) > 0 {
					all = append(all, lists(x.List)...)
				}
			}
		}
	}
	return all
}

// TestP2Apart: no two lists that Read answers share memory, those of two answers neither.
func TestP2Apart(t *testing.T) {
	a, _ := path.Read(twice)
	b, _ := path.Read(twice)
	all := append(lists(a), lists(b)...)
	if len(all) < 40 {
		t.Fatalf("P2: %d lists", len(all))
	}
	check := func(what string) {
		for i, x := range all {
			if !x.is(i) {
				t.Errorf("P2: list %d shares memory with others, %s", i, what)
			}
		}
	}
	for i, x := range all {
		x.write(i)
	}
	check("from the first one on")
	for i := len(all) - 1; i >= 0; i-- {
		all[i].write(i)
	}
	check("from the last one on")
}

// TestP2Empty: an empty list may be handed in as nil or not.
func TestP2Empty(t *testing.T) {
	a := []api.Path{{Steps: []api.Step{{Tag: "a", Tests: nil}}, Links: nil}}
	b := []api.Path{{Steps: []api.Step{{Tag: "a", Tests: []api.Test{}}}, Links: []int{}}}
	wantBoth(t, a, "a")
	wantBoth(t, b, "a")
	for _, kind := range kinds() {
		x, y := right(kind), right(kind)
		if !fields(kind).list {
			y.List = []api.Path{}
		}
		wantBoth(t, one("a", x), shown(one("a", x)))
		wantBoth(t, one("a", y), shown(one("a", x)))
	}
	if path.Check(nil) != path.Check([]api.Path{}) {
		t.Error("P2: Check of nil and of an empty list differ")
	}
}

// TestP3: a call answers the same again, though the answer of the one ahead was changed, and others were refused.
func TestP3(t *testing.T) {
	want, _ := path.Read(twice)
	weighed, _ := path.Weigh(want[0])
	for range 3 {
		got, err := path.Read(twice)
		if err != api.OK || !same(got, want) {
			t.Errorf("P3: Read answers %v, error %d, and %v ahead of it", got, err, want)
		}
		if s, err := path.Show(got); s != twice || err != api.OK {
			t.Errorf("P3: Show answers %q, error %d", s, err)
		}
		if w, err := path.Weigh(got[0]); w != weighed || err != api.OK {
			t.Errorf("P3: Weigh answers %v, error %d", w, err)
		}
		scribble(got, 9)
		wantRefused(t, twice+")")
		wantRefused(t, "a:not(b")
		wantCheck(t, "P3: a list that was scribbled over", got, path.Check(got))
		wantCheck(t, "P3: no list", nil, api.ErrMany)
	}
}
