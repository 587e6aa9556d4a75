package live_test

import (
	"fmt"
	"slices"
	"strings"
	"testing"

	"pathfindery/api"
	"pathfindery/doc"
	"pathfindery/index"
	"pathfindery/live"
	"pathfindery/mark"
	"pathfindery/match"
)

// TestExample7 is the document's seventh example.
func TestExample7(t *testing.T) {
	p, err := live.Open(readDoc(t, sample))
	if err != api.OK || len(p.Index) != 6 {
		t.Errorf("example 6: %v, error %d", p.Index, err)
	}
	p, err = live.Remove(p, 2)
	left := []api.Entry{
		{Kind: api.KeyTag, Name: "item", Nodes: []int{1, 2}},
		{Kind: api.KeyTag, Name: "list", Nodes: []int{0}},
		{Kind: api.KeyId, Name: "top", Nodes: []int{0}},
		{Kind: api.KeyClass, Name: "a", Nodes: []int{1, 2}},
	}
	if err != api.OK || !sameIndex(p.Index, left) {
		t.Errorf("example 7: %v, error %d", p.Index, err)
	}
}

func TestG1Open(t *testing.T) {
	r := draw(21)
	for n := range 200 {
		d := r.doc(1 + n%64)
		p, err := live.Open(d)
		wantPage(t, "Open", p, err, d)
	}
	for what, c := range wrong() {
		p, err := live.Open(c.d)
		wantErr(t, "Open, "+what, p, err, c.err)
	}
}

// TestG1Sample: what each change makes of a page, written out.
func TestG1Sample(t *testing.T) {
	p := page(readDoc(t, sample))
	e := readDoc(t, "x.a(y)")
	for at, s := range []string{
		`list#top(x.a(y) item.a item.b(link[to="one two"]) item.a)`,
		`list#top(item.a x.a(y) item.b(link[to="one two"]) item.a)`,
		`list#top(item.a item.b(link[to="one two"]) x.a(y) item.a)`,
		`list#top(item.a item.b(link[to="one two"]) item.a x.a(y))`,
	} {
		got, err := live.Insert(p, 0, at, e)
		wantPage(t, fmt.Sprint("Insert 0 ", at), got, err, readDoc(t, s))
	}
	got, err := live.Insert(p, 3, 0, e)
	wantPage(t, "Insert 3 0", got, err, readDoc(t, `list#top(item.a item.b(link[to="one two"](x.a(y))) item.a)`))
	got, err = live.Remove(p, 3)
	wantPage(t, "Remove 3", got, err, readDoc(t, `list#top(item.a item.b item.a)`))
	got, err = live.Put(p, 2, api.Node{Up: 77, Tag: "z", Id: "b", Classes: []string{"a", "c"}})
	wantPage(t, "Put 2", got, err, readDoc(t, `list#top(item.a z#b.a.c(link[to="one two"]) item.a)`))
	got, err = live.Put(p, 0, api.Node{Tag: "z", Attrs: []api.Attr{{Name: "k"}}})
	wantPage(t, "Put 0", got, err, readDoc(t, `z[k=""](item.a item.b(link[to="one two"]) item.a)`))
}

// said is what chapter 1 says of the document.
func said(name string, g given) (api.Doc, api.Errno) {
	switch name {
	case "Insert":
		return doc.Insert(g.p.Doc, g.n, g.at, g.e)
	case "Remove":
		return doc.Remove(g.p.Doc, g.n)
	}
	return doc.Put(g.p.Doc, g.n, g.x)
}

// TestG1Drawn: what is said of the document is said of the page, errors too.
func TestG1Drawn(t *testing.T) {
	r := draw(22)
	for i := range 150 {
		g := given{p: page(r.doc(1 + i%12)), e: r.doc(1 + i%3), x: r.node()}
		if i%5 == 0 {
			g.x.Tag = "X"
		}
		for g.n = -1; g.n <= len(g.p.Doc.Nodes); g.n++ {
			for g.at = -1; g.at <= 4; g.at++ {
				for _, c := range changes() {
					d, e := said(c.name, g)
					got, err := c.run(g)
					what := fmt.Sprint(c.name, " ", g.n, " ", g.at)
					if e != api.OK {
						wantErr(t, what, got, err, e)
					} else {
						wantPage(t, what, got, err, d)
					}
				}
			}
		}
	}
}

// TestG1Errors: the errors of chapter 1, each where none ahead of it applies.
func TestG1Errors(t *testing.T) {
	p := page(readDoc(t, sample))
	right := readDoc(t, "a")
	for what, c := range wrong() {
		got, err := live.Insert(p, 9, 9, c.d)
		wantErr(t, "Insert, "+what, got, err, c.err)
	}
	for what, x := range map[string]api.Node{
		"no tag": {}, "tag": {Tag: "A"}, "id": {Tag: "a", Id: "9"}, "classes": {Tag: "a", Classes: []string{"b", "a"}}, "attributes": {Tag: "a", Attrs: []api.Attr{{Name: "k", Value: "\n"}}},
	} {
		got, err := live.Put(p, 4, x)
		wantErr(t, "Put, "+what, got, err, api.ErrForm)
		got, err = live.Put(p, 5, x)
		wantErr(t, "Put 5, "+what, got, err, api.ErrNone)
	}
	for _, n := range []int{-1, 5} {
		got, err := live.Insert(p, n, -1, right)
		wantErr(t, "Insert", got, err, api.ErrNone)
		got, err = live.Remove(p, n)
		wantErr(t, "Remove", got, err, api.ErrNone)
	}
	for _, at := range []int{-1, 4} {
		got, err := live.Insert(p, 0, at, right)
		wantErr(t, "Insert", got, err, api.ErrRange)
	}
	got, err := live.Remove(p, 0)
	wantErr(t, "Remove 0", got, err, api.ErrRange)
}

// TestG1Many: a page may become as great as a document may be, and no greater.
func TestG1Many(t *testing.T) {
	r := draw(23)
	p := page(r.doc(60))
	four := r.doc(4)
	full, err := live.Insert(p, 3, 0, four)
	if err != api.OK || len(full.Doc.Nodes) != api.MaxNodes || !sameIndex(full.Index, want(full.Doc)) {
		t.Errorf("G1: Insert up to all elements: %d of them, error %d", len(full.Doc.Nodes), err)
	}
	got, err := live.Insert(p, 3, 0, r.doc(5))
	wantErr(t, "Insert, one too many", got, err, api.ErrMany)
	got, err = live.Insert(full, 63, 0, r.doc(1))
	wantErr(t, "Insert into a full page", got, err, api.ErrMany)
	got, err = live.Insert(full, 63, 1, r.doc(1))
	wantErr(t, "Insert out of range into a full page", got, err, api.ErrRange)
	for n := range full.Doc.Nodes[1:] {
		d, _ := doc.Remove(full.Doc, n+1)
		got, err := live.Remove(full, n+1)
		wantPage(t, fmt.Sprint("Remove ", n+1), got, err, d)
	}
}

// TestG1Index: a page whose index is not the document's is refused, ahead of whatever else is wrong but the document.
func TestG1Index(t *testing.T) {
	d := readDoc(t, "a#b.c(b#c.a.c c.a a)")
	right := want(d)
	more := []given{
		{n: 1, e: readDoc(t, "a"), x: api.Node{Tag: "x"}},
		{n: 0, at: 9, e: readDoc(t, "a"), x: api.Node{Tag: "X"}},
		{n: 9, at: 9},
	}
	for _, c := range changes() {
		for i, g := range more {
			for what, x := range spoilt(right) {
				g.p = api.Page{Doc: d, Index: x}
				got, err := c.run(g)
				wantErr(t, fmt.Sprint(c.name, " ", i, ", ", what), got, err, api.ErrForm)
			}
			for what, w := range wrong() {
				for _, x := range [][]api.Entry{nil, right, want(w.d)} {
					g.p = api.Page{Doc: w.d, Index: x}
					got, err := c.run(g)
					wantErr(t, fmt.Sprint(c.name, " ", i, ", ", what), got, err, w.err)
				}
			}
		}
	}
}

// texts are lists of every kind, of which some ask for what nobody has.
func texts() []string {
	return []string{
		"*", "a", "b.c", "*.a.b", "*#a", "x", "*.x", "a x", "a, x", "x, *#a, b", "a b", "a > b", "a + b", "a ~ b", "* > * > b", "*.a *.b + *",
		"*[a]", `*[a="b"]`, "*:nth(2n+1)", "*:last(0n+1)", "*:empty", "*:root", "*:not(x)", "*:not(*.a)", "*:is(x, a)", "*:has(*#a)", "*:not(a:not(*.b))", "a:has(b > *):not(*:root)",
	}
}

// wantFound: what is found on a page is what there is to be found.
func wantFound(t *testing.T, p api.Page) {
	t.Helper()
	for _, s := range texts() {
		l := readList(t, s)
		all, _ := match.All(p.Doc, l)
		if got, err := index.Find(p, l); err != api.OK || !slices.Equal(got, all) {
			m, _ := mark.Show(p.Doc)
			t.Fatalf("G2: Find %s in %s: %v, error %d; must be %v", s, m, got, err, all)
		}
	}
}

// TestG2: after each of a long row of changes, those that are refused too, what is found is what there is.
func TestG2(t *testing.T) {
	for i := range 12 {
		r := draw(30 + i)
		p, err := live.Open(r.doc(1 + i))
		if err != api.OK {
			t.Fatalf("G2: Open: error %d", err)
		}
		for range 60 {
			g := given{p: p, n: r.n(len(p.Doc.Nodes) + 1), at: r.n(3), e: r.doc(1 + r.n(4)), x: r.node()}
			c := changes()[r.n(3)]
			d, e := said(c.name, g)
			got, err := c.run(g)
			if err != e {
				t.Fatalf("G2: %s: error %d; must be %d", c.name, err, e)
			}
			if err == api.OK {
				p = got
				wantPage(t, c.name, p, err, d)
			}
			wantFound(t, p)
		}
	}
}

// TestG2Back: what was inserted and removed leaves the page as it was, and so does what was put and put back.
func TestG2Back(t *testing.T) {
	r := draw(24)
	for i := range 100 {
		p := page(r.doc(1 + i%9))
		n := r.n(len(p.Doc.Nodes))
		kids, _ := doc.Kids(p.Doc, n)
		for at := range len(kids) + 1 {
			e := r.doc(1 + r.n(4))
			more, err := live.Insert(p, n, at, e)
			if err != api.OK {
				t.Fatalf("G2: Insert: error %d", err)
			}
			kids, _ := doc.Kids(more.Doc, n)
			back, err := live.Remove(more, kids[at])
			wantPage(t, "Insert, Remove", back, err, p.Doc)
		}
		other, err := live.Put(p, n, r.node())
		if err != api.OK {
			t.Fatalf("G2: Put: error %d", err)
		}
		back, err := live.Put(other, n, p.Doc.Nodes[n])
		wantPage(t, "Put, Put", back, err, p.Doc)
	}
}

// TestG2Names: names that rise by their bytes, and not as words do, lie in the index in that order after a change.
func TestG2Names(t *testing.T) {
	p, _ := live.Open(readDoc(t, "b"))
	for i, name := range []string{"a", "a-", "a0", "aa", "aa-", "a-a", "ab", "z9"} {
		x := api.Doc{Nodes: []api.Node{{Up: -1, Tag: name, Id: name, Classes: []string{name}}}}
		next, err := live.Insert(p, 0, 0, x)
		if err != api.OK {
			t.Fatalf("G2: Insert %d: error %d", i, err)
		}
		p = next
	}
	var names []string
	for _, e := range p.Index {
		names = append(names, fmt.Sprint(e.Kind, e.Name))
	}
	must := "1a 1a- 1a-a 1a0 1aa 1aa- 1ab 1b 1z9 2a 2a- 2a-a 2a0 2aa 2aa- 2ab 2z9 3a 3a- 3a-a 3a0 3aa 3aa- 3ab 3z9"
	if got := strings.Join(names, " "); got != must {
		t.Errorf("G2: %s; must be %s", got, must)
	}
}
