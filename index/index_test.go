package index_test

import (
	"fmt"
	"math"
	"slices"
	"testing"

	"pathfindery/api"
	"pathfindery/doc"
	"pathfindery/index"
	"pathfindery/mark"
	"pathfindery/match"
	"pathfindery/path"
)

func readDoc(t *testing.T, s string) api.Doc {
	t.Helper()
	d, err := mark.Read(s)
	if err != api.OK {
		t.Fatalf("the document %q can't be read: error %d", s, err)
	}
	return d
}

func readList(t *testing.T, s string) []api.Path {
	t.Helper()
	l, err := path.Read(s)
	if err != api.OK {
		t.Fatalf("the list %q can't be read: error %d", s, err)
	}
	return l
}

func same(a, b []api.Entry) bool {
	return slices.EqualFunc(a, b, func(a, b api.Entry) bool {
		return a.Kind == b.Kind && a.Name == b.Name && slices.Equal(a.Nodes, b.Nodes)
	})
}

// want is the index of a document, told by other means: whoever is least is taken, again and again.
func want(d api.Doc) []api.Entry {
	hasKey := func(x api.Node, kind int, name string) bool {
		switch kind {
		case api.KeyTag:
			return x.Tag == name
		case api.KeyId:
			return name != "" && x.Id == name
		}
		return slices.Contains(x.Classes, name)
	}
	var all []api.Entry
	for kind := api.KeyTag; kind <= api.KeyClass; kind++ {
		var names []string
		for _, x := range d.Nodes {
			names = append(append(names, x.Tag, x.Id), x.Classes...)
		}
		slices.Sort(names)
		for _, name := range slices.Compact(names) {
			e := api.Entry{Kind: kind, Name: name}
			for n, x := range d.Nodes {
				if hasKey(x, kind, name) {
					e.Nodes = append(e.Nodes, n)
				}
			}
			if len(e.Nodes) > 0 {
				all = append(all, e)
			}
		}
	}
	return all
}

const sample = `list#top(item.a item.b(link[to="one two"]) item.a)`

// TestExample6 is the document's sixth example, and its seventh.
func TestExample6(t *testing.T) {
	d := readDoc(t, sample)
	x, err := index.Build(d)
	all := []api.Entry{
		{Kind: api.KeyTag, Name: "item", Nodes: []int{1, 2, 4}},
		{Kind: api.KeyTag, Name: "link", Nodes: []int{3}},
		{Kind: api.KeyTag, Name: "list", Nodes: []int{0}},
		{Kind: api.KeyId, Name: "top", Nodes: []int{0}},
		{Kind: api.KeyClass, Name: "a", Nodes: []int{1, 4}},
		{Kind: api.KeyClass, Name: "b", Nodes: []int{2}},
	}
	if err != api.OK || !same(x, all) {
		t.Errorf("example 6: %v, error %d", x, err)
	}
	d, _ = doc.Remove(d, 2)
	if x, err := index.Build(d); err != api.OK || len(x) != 4 {
		t.Errorf("example 7: %v, error %d", x, err)
	}
}

// draw gives numbers for long tests; the same each time.
type draw uint64

func (r *draw) n(n int) int {
	*r = *r*6364136223846793005 + 1442695040888963407
	return int(uint64(*r) >> 33 % uint64(n))
}

// doc draws a document of n elements.
func (r *draw) doc(n int) api.Doc {
	names := []string{"a", "a-", "a0", "aa", "b", "c"}
	var d api.Doc
	for i := range n {
		x := api.Node{Up: i - 1, Tag: names[r.n(6)]}
		for x.Up > 0 && r.n(2) == 0 {
			x.Up = d.Nodes[x.Up].Up
		}
		if r.n(2) == 0 {
			x.Id = names[r.n(6)]
		}
		for _, c := range names {
			if r.n(4) == 0 {
				x.Classes = append(x.Classes, c)
			}
		}
		if r.n(3) == 0 {
			x.Attrs = []api.Attr{{Name: "a", Value: "b"}}
		}
		d.Nodes = append(d.Nodes, x)
	}
	return d
}

func TestF1Build(t *testing.T) {
	r := draw(11)
	for n := range 400 {
		d := r.doc(1 + n%64)
		if x, err := index.Build(d); err != api.OK || !same(x, want(d)) {
			t.Fatalf("F1: Build: %v, error %d; must be %v", x, err, want(d))
		}
	}
	// As many entries as there can be.
	var full api.Doc
	for i := range 64 {
		x := api.Node{Up: i - 1, Tag: fmt.Sprint("t", i), Id: fmt.Sprint("i", i)}
		for k := range 6 {
			x.Classes = append(x.Classes, fmt.Sprint("c", k, "-", i))
		}
		full.Nodes = append(full.Nodes, x)
	}
	x, err := index.Build(full)
	if err != api.OK || len(x) != 512 || !same(x, want(full)) {
		t.Errorf("F1: Build: %d entries, error %d", len(x), err)
	}
	if n, err := index.Look(x, api.KeyClass, "c5-63"); err != api.OK || !slices.Equal(n, []int{63}) {
		t.Errorf("F1: Look: %v, error %d", n, err)
	}
}

// wrong are documents that are not right.
func wrong() map[string]struct {
	d   api.Doc
	err api.Errno
} {
	type bad = struct {
		d   api.Doc
		err api.Errno
	}
	return map[string]bad{
		"nothing": {api.Doc{}, api.ErrMany},
		"many":    {api.Doc{Nodes: make([]api.Node, 65)}, api.ErrMany},
		"no tag":  {api.Doc{Nodes: []api.Node{{Up: -1}}}, api.ErrForm},
		"up":      {api.Doc{Nodes: []api.Node{{Up: -1, Tag: "a"}, {Up: 1, Tag: "a"}}}, api.ErrForm},
		"up 0":    {api.Doc{Nodes: []api.Node{{Up: 0, Tag: "a"}}}, api.ErrForm},
		"far up":  {api.Doc{Nodes: []api.Node{{Up: -1, Tag: "a"}, {Up: math.MaxInt, Tag: "a"}}}, api.ErrForm},
		"classes": {api.Doc{Nodes: []api.Node{{Up: -1, Tag: "a", Classes: []string{"a", "a"}}}}, api.ErrForm},
	}
}

func TestF1BuildErrors(t *testing.T) {
	for what, c := range wrong() {
		if x, err := index.Build(c.d); err != c.err || len(x) != 0 {
			t.Errorf("F1: Build, %s: %v, error %d; must be %d", what, x, err, c.err)
		}
	}
}

func TestF1Look(t *testing.T) {
	x, _ := index.Build(readDoc(t, "a#b.c(b#c.a.c c.a a)"))
	for kind, names := range map[int]map[string][]int{
		api.KeyTag:   {"a": {0, 3}, "b": {1}, "c": {2}, "": nil, "d": nil},
		api.KeyId:    {"a": nil, "b": {0}, "c": {1}, "": nil},
		api.KeyClass: {"a": {1, 2}, "b": nil, "c": {0, 1}, "": nil, "A": nil},
	} {
		for name, want := range names {
			if n, err := index.Look(x, kind, name); err != api.OK || !slices.Equal(n, want) {
				t.Errorf("F1: Look %d %q: %v, error %d; must be %v", kind, name, n, err, want)
			}
		}
	}
	for _, kind := range []int{math.MinInt, -1, 0, 4, 5, math.MaxInt} {
		for _, l := range [][]api.Entry{nil, x, {{Kind: kind, Name: "a", Nodes: []int{1}}}, make([]api.Entry, 513)} {
			if n, err := index.Look(l, kind, "a"); err != api.ErrKind || len(n) != 0 {
				t.Errorf("F1: Look, kind %d: %v, error %d", kind, n, err)
			}
		}
	}
}

// TestF1LookAny: Look takes any entries, not those of Build alone.
func TestF1LookAny(t *testing.T) {
	odd := []api.Entry{
		{Kind: api.KeyClass, Name: "a", Nodes: []int{9, -1, 9}},
		{Kind: 99, Name: "b", Nodes: []int{7}},
		{Kind: api.KeyTag, Name: "b", Nodes: []int{1}},
		{Kind: api.KeyTag, Name: "b", Nodes: []int{2}},
		{Kind: api.KeyTag, Name: "a", Nodes: []int{math.MaxInt}},
		{Kind: api.KeyId, Name: "a"},
		{Kind: api.KeyId, Name: "a", Nodes: []int{4}},
		{Kind: api.KeyTag, Name: "\x00 X", Nodes: []int{5}},
		{Kind: api.KeyTag, Name: "", Nodes: []int{6}},
	}
	for _, c := range []struct {
		kind int
		name string
		want []int
	}{{api.KeyClass, "a", []int{9, -1, 9}}, {api.KeyTag, "b", []int{1}}, {api.KeyTag, "a", []int{math.MaxInt}}, {api.KeyId, "a", nil}, {api.KeyId, "b", nil}, {api.KeyTag, "\x00 X", []int{5}}, {api.KeyTag, "", []int{6}}} {
		if n, err := index.Look(odd, c.kind, c.name); err != api.OK || !slices.Equal(n, c.want) {
			t.Errorf("F1: Look %d %q: %v, error %d; must be %v", c.kind, c.name, n, err, c.want)
		}
	}
	for many, want := range map[int]api.Errno{0: api.OK, 1: api.OK, 511: api.OK, 512: api.OK, 513: api.ErrMany, 5000: api.ErrMany} {
		l := make([]api.Entry, many)
		for i := range l {
			l[i] = api.Entry{Kind: api.KeyId, Name: fmt.Sprint(i), Nodes: []int{i}}
		}
		var found []int
		if want == api.OK && many > 0 {
			found = []int{many - 1}
		}
		if n, err := index.Look(l, api.KeyId, fmt.Sprint(many-1)); err != want || !slices.Equal(n, found) {
			t.Errorf("F1: Look in %d entries: %v, error %d; must be %d", many, n, err, want)
		}
	}
}

// texts are lists of every kind, of which some ask for what nobody has.
func texts() []string {
	return []string{
		"*", "a", "b.c", "*.a.b", "*#a", "x", "*.x", "*#x", "a.x", "x.a", "*#x.a", "a x", "x a", "x > a", "a + x", "x ~ *.a", "a, x", "x, a", "x, *.x, *#x", "x, *#x, b", "x a, a a, *.x",
		"a b", "a > b", "a + b", "a ~ b", "* > * > b", "a *.b + b", "*[a]", `*[a="b"]`, `*[x="b"]`, "*:nth(2n+1)", "*:last(0n+1)", "*:empty", "*:root",
		"*:not(x)", "*:not(*.x)", "*:not(*#x)", "*:not(a)", "*:is(x)", "*:is(x, a)", "*:has(x)", "*:has(*#a)", "*:not(*:is(x))", "*:not(a:not(x))", "a:has(b > c):not(*:root)", "*:not(*:has(*)), *:root", "a ~ *:not(a + *)",
	}
}

// TestF2Find: what is found by the index is what matches.
func TestF2Find(t *testing.T) {
	r := draw(12)
	for i := range 300 {
		d := r.doc(1 + i%12)
		p := api.Page{Doc: d, Index: want(d)}
		for _, s := range texts() {
			l := readList(t, s)
			all, _ := match.All(d, l)
			if got, err := index.Find(p, l); err != api.OK || !slices.Equal(got, all) {
				m, _ := mark.Show(d)
				t.Fatalf("F2: Find %s in %s: %v, error %d; must be %v", s, m, got, err, all)
			}
		}
	}
}

func TestF2Sample(t *testing.T) {
	d := readDoc(t, sample)
	p := api.Page{Doc: d, Index: want(d)}
	for s, want := range map[string][]int{
		"item":          {1, 2, 4},
		"*.a":           {1, 4},
		"*#top":         {0},
		"item link":     {3},
		"item.b + *":    {4},
		"x":             nil,
		"item.x, *#top": {0},
		"*:not(*.x)":    {0, 1, 2, 3, 4},
		"*:has(link)":   {0, 2},
	} {
		if got, err := index.Find(p, readList(t, s)); err != api.OK || !slices.Equal(got, want) {
			t.Errorf("F2: Find %s: %v, error %d; must be %v", s, got, err, want)
		}
	}
}

func wantFind(t *testing.T, what string, p api.Page, l []api.Path, want api.Errno) {
	t.Helper()
	if got, err := index.Find(p, l); err != want || len(got) != 0 && err != api.OK {
		t.Errorf("F2: Find, %s: %v, error %d; must be %d", what, got, err, want)
	}
}

// spoilt are indexes that are not what Build makes.
func spoilt(right []api.Entry) map[string][]api.Entry {
	change := func(f func(l []api.Entry) []api.Entry) []api.Entry {
		l := slices.Clone(right)
		for i := range l {
			l[i].Nodes = slices.Clone(l[i].Nodes)
		}
		return f(l)
	}
	all := map[string][]api.Entry{
		"none":                  nil,
		"without the first one": right[1:],
		"without the last one":  right[:len(right)-1],
		"twice":                 append(slices.Clone(right), right...),
		"one more":              append(slices.Clone(right), api.Entry{}),
		"last twice":            append(slices.Clone(right), right[len(right)-1]),
		"no one has":            append(slices.Clone(right), api.Entry{Kind: api.KeyClass, Name: "z"}),
		"very many":             make([]api.Entry, 1<<16),
	}
	for i := range right {
		all[fmt.Sprint("kind ", i)] = change(func(l []api.Entry) []api.Entry { l[i].Kind++; return l })
		all[fmt.Sprint("name ", i)] = change(func(l []api.Entry) []api.Entry { l[i].Name += "x"; return l })
		all[fmt.Sprint("no nodes ", i)] = change(func(l []api.Entry) []api.Entry { l[i].Nodes = nil; return l })
		all[fmt.Sprint("node ", i)] = change(func(l []api.Entry) []api.Entry { l[i].Nodes[0]++; return l })
		all[fmt.Sprint("more nodes ", i)] = change(func(l []api.Entry) []api.Entry { l[i].Nodes = append(l[i].Nodes, 9); return l })
		all[fmt.Sprint("less nodes ", i)] = change(func(l []api.Entry) []api.Entry { l[i].Nodes = l[i].Nodes[1:]; return l })
		if i > 0 {
			all[fmt.Sprint("order ", i)] = change(func(l []api.Entry) []api.Entry { l[i], l[i-1] = l[i-1], l[i]; return l })
		}
	}
	return all
}

func TestF2Errors(t *testing.T) {
	d := readDoc(t, sample)
	right := want(d)
	lists := map[api.Errno][]api.Path{
		api.OK:       readList(t, "item"),
		api.ErrMany:  nil,
		api.ErrKind:  {{Steps: []api.Step{{Tests: []api.Test{{Kind: 99}}}}}},
		api.ErrForm:  {{Steps: []api.Step{{Tag: "X"}}}},
		api.ErrRange: {{Steps: []api.Step{{Tests: []api.Test{{Kind: api.NthKid, Nth: api.Nth{A: math.MaxInt}}}}}}},
	}
	for listErr, l := range lists {
		wantFind(t, "a right page", api.Page{Doc: d, Index: right}, l, listErr)
		for what, x := range spoilt(right) {
			wantFind(t, what, api.Page{Doc: d, Index: x}, l, api.ErrForm)
		}
		for what, c := range wrong() {
			wantFind(t, what, api.Page{Doc: c.d, Index: right}, l, c.err)
			wantFind(t, what+" without index", api.Page{Doc: c.d}, l, c.err)
		}
	}
}
