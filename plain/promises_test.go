package plain_test

import (
	"fmt"
	"reflect"
	"slices"
	"testing"

	"pathfindery/api"
	"pathfindery/plain"
)

// calls are those that answer a list.
func calls() map[string]func([]api.Path) ([]api.Path, api.Errno) {
	return map[string]func([]api.Path) ([]api.Path, api.Errno){"Once": plain.Once, "Plain": plain.Plain}
}

// TestP1 hands every call lists of every sort: none panics, and with an error nothing else comes.
func TestP1(t *testing.T) {
	r := draw(45)
	for i := range 3000 {
		l := r.spoil(copied(r.list(1)))
		if n, err := plain.Size(l); err != api.OK && n != 0 {
			t.Errorf("P1: Size of list %d: %d, error %d", i, n, err)
		}
		for name, call := range calls() {
			if got, err := call(l); err != api.OK && len(got) != 0 || err == api.OK && shown(got) == "(not right)" {
				t.Errorf("P1: %s of list %d: %v, error %d", name, i, got, err)
			}
		}
	}
}

// spoil changes something in a list, wherever it is met.
func (r *draw) spoil(l []api.Path) []api.Path {
	p := &l[r.n(len(l))]
	s := &p.Steps[r.n(len(p.Steps))]
	if len(s.Tests) > 0 && r.n(3) > 0 {
		x := &s.Tests[r.n(len(s.Tests))]
		switch {
		case len(x.List) > 0 && r.n(2) == 0:
			x.List = r.spoil(x.List)
		case len(x.List) > 0 && r.n(2) == 0:
			x.List = l
		default:
			x.Kind = r.n(18) - 1
		}
		return l
	}
	switch r.n(4) {
	case 0:
		p.Steps = p.Steps[1:]
	case 1:
		p.Links = append(p.Links, 1)
	case 2:
		s.Tests = append(s.Tests, slices.Repeat(r.step(1).Tests, 3)...)
	default:
		s.Tag = "?"
	}
	return l
}

// full is a list as great as one may be, deep lists and all, in which nothing is the same.
func full(deep int) []api.Path {
	number := 0
	var lists func(deep int) []api.Path
	lists = func(deep int) []api.Path {
		var l []api.Path
		for range api.MaxList {
			p := api.Path{Links: []int{1, 2, 3, 4}}
			for range api.MaxParts {
				var s api.Step
				for range api.MaxTests {
					number++
					x := api.Test{Kind: api.NthKid, Nth: api.Nth{A: number % 1000, B: number / 1000}}
					if deep > 1 {
						x = api.Test{Kind: api.Not + number%3, List: lists(deep - 1)}
					}
					s.Tests = append(s.Tests, x)
				}
				p.Steps = append(p.Steps, s)
			}
			l = append(l, p)
		}
		return l
	}
	return lists(deep)
}

// TestP1Full: lists of very many steps and tests take no long time, nor do those in which each list is the same.
func TestP1Full(t *testing.T) {
	l := full(2)
	if n, err := plain.Size(l); err != api.OK || n != 25+150*(1+25*7) {
		t.Errorf("P1: Size: %d, error %d", n, err)
	}
	wantOnce(t, l, shown(l))
	wantPlain(t, l, shown(l))
	test := api.Test{Kind: api.Root}
	for range api.MaxDeep {
		s := api.Step{Tests: slices.Repeat([]api.Test{test}, api.MaxTests)}
		p := api.Path{Steps: slices.Repeat([]api.Step{s}, api.MaxParts), Links: []int{1, 1, 1, 1}}
		test = api.Test{Kind: api.Has, List: slices.Repeat([]api.Path{p}, api.MaxList)}
	}
	n, err := plain.Size(test.List)
	if want := 25 * (1 + 6*(1+25*(1+6*(1+25*7)))); err != api.OK || n != want {
		t.Errorf("P1: Size: %d, error %d; must be %d", n, err, want)
	}
	one := "*:root *:root *:root *:root *:root"
	two := "*:has(" + one + ") "
	two = (two + two + two + two + two)[:len(two)*5-1]
	three := "*:has(" + two + ") "
	three = (three + three + three + three + three)[:len(three)*5-1]
	wantPlain(t, test.List, three)
}

// roomy lays a list and all lists in it down with spare room behind them.
func roomy(l []api.Path) []api.Path {
	paths := []api.Path{}
	for _, p := range l {
		steps := []api.Step{}
		for _, s := range p.Steps {
			tests := []api.Test{}
			for _, x := range s.Tests {
				if len(x.List) > 0 {
					x.List = roomy(x.List)
				}
				tests = append(tests, x)
			}
			tests = append(tests, api.Test{Name: "spare"}, api.Test{Name: "room"})
			steps = append(steps, api.Step{Tag: s.Tag, Tests: tests[:len(s.Tests)]})
		}
		steps = append(steps, api.Step{Tag: "spare"})
		links := append(append([]int{}, p.Links...), 77)
		paths = append(paths, api.Path{Steps: steps[:len(p.Steps)], Links: links[:len(p.Links)]})
	}
	paths = append(paths, api.Path{Links: []int{77}})
	return paths[:len(l)]
}

// whole copies a list with all spare room.
func whole(l []api.Path) []api.Path {
	all := slices.Clone(l[:cap(l)])
	for i, p := range all {
		all[i].Links = slices.Clone(p.Links[:cap(p.Links)])
		all[i].Steps = slices.Clone(p.Steps[:cap(p.Steps)])
		for k, s := range all[i].Steps {
			tests := slices.Clone(s.Tests[:cap(s.Tests)])
			for m, x := range tests {
				tests[m].List = whole(x.List)
			}
			all[i].Steps[k].Tests = tests
		}
	}
	return all
}

// TestP2Read: what is handed in, spare room and all, is as it was after each call.
func TestP2Read(t *testing.T) {
	r := draw(46)
	for range 1000 {
		l := roomy(r.list(1))
		before := whole(l)
		plain.Size(l)
		plain.Once(l)
		plain.Plain(l)
		if !reflect.DeepEqual(before, whole(l)) {
			t.Fatalf("P2: a call changes what it is handed: %s", shown(before))
		}
	}
}

// scribble writes over all of a list and of those in it, spare room too.
func scribble(l []api.Path) {
	l = l[:cap(l)]
	for i, p := range l {
		for k := range p.Links[:cap(p.Links)] {
			p.Links[:cap(p.Links)][k] = -9
		}
		steps := p.Steps[:cap(p.Steps)]
		for k, s := range steps {
			tests := s.Tests[:cap(s.Tests)]
			for m, x := range tests {
				scribble(x.List)
				tests[m] = api.Test{Kind: -9, Name: "scribble"}
			}
			steps[k] = api.Step{Tag: "scribble"}
		}
		l[i] = api.Path{}
	}
}

// TestP2Own: a change of what was handed in is not seen in the answer, and none of the answer in what was handed in.
func TestP2Own(t *testing.T) {
	r := draw(47)
	for range 500 {
		l := r.list(1)
		for name, call := range calls() {
			in := roomy(l)
			got, _ := call(in)
			text, before := shown(got), whole(in)
			scribble(in)
			if shown(got) != text {
				t.Fatalf("P2: %s: the answer sees a change of what was handed in: %s", name, shown(l))
			}
			in = roomy(l)
			got, _ = call(in)
			scribble(got)
			if !reflect.DeepEqual(before, whole(in)) {
				t.Fatalf("P2: %s: what was handed in sees a change of the answer: %s", name, shown(l))
			}
		}
	}
}

// spot is where a list lies in memory, as far as it has room.
type spot struct {
	at   any
	what string
}

// spots tells the places of all lists within a list, spare room too.
func spots(l []api.Path, where string) []spot {
	var all []spot
	l = l[:cap(l)]
	for i := range l {
		what := fmt.Sprint(where, " path ", i)
		all = append(all, spot{&l[i], what})
		p := l[i]
		for k := range p.Links[:cap(p.Links)] {
			all = append(all, spot{&p.Links[:cap(p.Links)][k], fmt.Sprint(what, " link ", k)})
		}
		steps := p.Steps[:cap(p.Steps)]
		for k := range steps {
			what := fmt.Sprint(what, " step ", k)
			all = append(all, spot{&steps[k], what})
			tests := steps[k].Tests[:cap(steps[k].Tests)]
			for m := range tests {
				what := fmt.Sprint(what, " test ", m)
				all = append(all, spot{&tests[m], what})
				all = append(all, spots(tests[m].List, what)...)
			}
		}
	}
	return all
}

// shared is a list of which all that can be is one memory.
func shared(t *testing.T, s string) []api.Path {
	l := readList(t, s)
	for i := range l {
		l[i].Steps, l[i].Links = l[0].Steps, l[0].Links
		for k := range l[i].Steps {
			l[i].Steps[k].Tests = l[0].Steps[0].Tests
		}
	}
	for _, x := range l[0].Steps[0].Tests {
		for k := range x.List {
			x.List[k].Steps = l[0].Steps[0].Tests[0].List[0].Steps
		}
	}
	return l
}

// TestP2Apart: no two lists of an answer share memory, though those that are handed in do.
func TestP2Apart(t *testing.T) {
	r := draw(48)
	lists := [][]api.Path{
		shared(t, "* > *"), shared(t, "*:has(a):not(a), b:has(a)"), shared(t, "*:is(*.x.y):not(a), b"), shared(t, "*:has(a, b):is(a, b) > *, a b"), shared(t, "*:not(*:not(a, b)):is(*:has(a)) *"),
	}
	for range 500 {
		lists = append(lists, r.list(1))
	}
	for _, l := range lists {
		for name, call := range calls() {
			got, err := call(l)
			if err != api.OK {
				t.Fatalf("P2: %s: error %d", name, err)
			}
			seen := map[any]string{}
			for _, s := range spots(got, "") {
				if seen[s.at] != "" {
					t.Errorf("P2: %s %s: one memory for%s and%s", name, shown(l), seen[s.at], s.what)
				}
				seen[s.at] = s.what
			}
			for _, s := range spots(l, "") {
				if seen[s.at] != "" {
					t.Errorf("P2: %s %s: one memory for%s and for%s, handed in", name, shown(l), seen[s.at], s.what)
				}
			}
		}
	}
}

// TestP2Empty: an empty list may be handed in as nil or not.
func TestP2Empty(t *testing.T) {
	r := draw(49)
	for range 500 {
		l := r.list(1)
		for name, call := range calls() {
			a, e := call(l)
			b, f := call(unnil(l))
			if shown(a) != shown(b) || e != f {
				t.Errorf("P2: %s %s: %s, error %d, and with empty lists %s, error %d", name, shown(l), shown(a), e, shown(b), f)
			}
		}
		n, _ := plain.Size(l)
		if m, err := plain.Size(unnil(l)); m != n || err != api.OK {
			t.Errorf("P2: Size %s: %d, and with empty lists %d, error %d", shown(l), n, m, err)
		}
	}
}

// unnil has an empty list wherever there is none.
func unnil(l []api.Path) []api.Path {
	all := []api.Path{}
	for _, p := range l {
		c := api.Path{Steps: []api.Step{}, Links: append([]int{}, p.Links...)}
		for _, s := range p.Steps {
			step := api.Step{Tag: s.Tag, Tests: []api.Test{}}
			for _, x := range s.Tests {
				x.List = unnil(x.List)
				step.Tests = append(step.Tests, x)
			}
			c.Steps = append(c.Steps, step)
		}
		all = append(all, c)
	}
	return all
}

// TestP3: a call answers the same again, though the answers of those ahead were changed, and others were refused.
func TestP3(t *testing.T) {
	first := map[string]string{}
	for round := range 3 {
		r := draw(50)
		for i := range 300 {
			l := r.list(1)
			for name, call := range calls() {
				key := fmt.Sprint(name, " ", i)
				got, err := call(l)
				text := fmt.Sprint(shown(got), err)
				if round == 0 {
					first[key] = text
				} else if text != first[key] {
					t.Errorf("P3: %s: %s, and %s ahead of it", key, text, first[key])
				}
				scribble(got)
				call(nil)
			}
		}
	}
}
