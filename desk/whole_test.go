package desk_test

import (
	"fmt"
	"slices"
	"testing"

	"pathfindery/api"
	"pathfindery/doc"
	"pathfindery/index"
	"pathfindery/live"
	"pathfindery/mark"
	"pathfindery/match"
	"pathfindery/nth"
	"pathfindery/path"
	"pathfindery/plain"
)

// What the whole promises, asked through all layers together. (Each chapter's own tests ask it of their layer more closely.)

// doc draws a document of n elements.
func (r *draw) doc(n int) api.Doc {
	var d api.Doc
	for i := range n {
		x := api.Node{Up: i - 1, Tag: []string{"a", "b", "c-1"}[r.n(3)], Id: []string{"", "", "x", "y"}[r.n(4)]}
		for x.Up > 0 && r.n(2) == 0 {
			x.Up = d.Nodes[x.Up].Up
		}
		x.Classes = [][]string{nil, {"p"}, {"q"}, {"p", "q"}}[r.n(4)]
		x.Attrs = [][]api.Attr{nil, {{Name: "k"}}, {{Name: "j", Value: "v w"}, {Name: "k", Value: " ](.#="}}}[r.n(3)]
		d.Nodes = append(d.Nodes, x)
	}
	return d
}

// list draws a right list that lies so deep.
func (r *draw) list(deep int) []api.Path {
	var l []api.Path
	for range 1 + r.n(3)*r.n(2) {
		var p api.Path
		for i := range 1 + r.n(3)*r.n(2) {
			if i > 0 {
				p.Links = append(p.Links, 1+r.n(4))
			}
			s := api.Step{Tag: []string{"", "", "a", "b"}[r.n(4)]}
			for range r.n(4) {
				s.Tests = append(s.Tests, r.test(deep))
			}
			p.Steps = append(p.Steps, s)
		}
		l = append(l, p)
	}
	return l
}

func (r *draw) test(deep int) api.Test {
	kind := 1 + r.n(api.Has)
	if deep == api.MaxDeep {
		kind = 1 + r.n(api.Root)
	}
	switch {
	case kind <= api.HasAttr:
		return api.Test{Kind: kind, Name: []string{"p", "x", "k"}[r.n(3)]}
	case kind <= api.AttrWord:
		return api.Test{Kind: kind, Name: []string{"j", "k"}[r.n(2)], Value: []string{"", "v", "w", "v w", " "}[r.n(5)]}
	case kind <= api.NthLast:
		return api.Test{Kind: kind, Nth: api.Nth{A: r.n(5) - 2, B: r.n(5) - 1}}
	case kind <= api.Root:
		return api.Test{Kind: kind}
	}
	return api.Test{Kind: kind, List: r.list(deep + 1)}
}

func showDoc(d api.Doc) string {
	s, err := mark.Show(d)
	return fmt.Sprint(s, " ", err)
}

func showList(l []api.Path) string {
	s, err := path.Show(l)
	return fmt.Sprint(s, " ", err)
}

// TestWholeBack: what was inserted and removed leaves the document as it was.
func TestWholeBack(t *testing.T) {
	r := draw(81)
	for range 200 {
		d, e := r.doc(1+r.n(9)), r.doc(1+r.n(4))
		up := r.n(len(d.Nodes))
		kids, _ := doc.Kids(d, up)
		for at := range len(kids) + 1 {
			more, err := doc.Insert(d, up, at, e)
			if err != api.OK {
				t.Fatalf("Insert: error %d", err)
			}
			kids, _ := doc.Kids(more, up)
			part, _ := doc.Part(more, kids[at])
			back, _ := doc.Remove(more, kids[at])
			if showDoc(part) != showDoc(e) || showDoc(back) != showDoc(d) {
				t.Fatalf("%s at %d %d of %s: the part is %s, and without it %s", showDoc(e), up, at, showDoc(d), showDoc(part), showDoc(back))
			}
			was, _ := mark.Show(d)
			in, _ := mark.Show(e)
			want(t, [2]string{"load " + was, "ok"}, [2]string{fmt.Sprint("insert ", up, " ", at, " ", in), "ok"}, [2]string{fmt.Sprint("remove ", kids[at]), "ok"}, [2]string{"show", was})
		}
	}
}

// changed draws a text in which a byte is another one, is left out or put in.
func (r *draw) changed(s string) string {
	at := r.n(len(s))
	b := string(" ()[]ab09.#=\"*:,>+~n-"[r.n(21)])
	return []string{s[:at] + b + s[at+1:], s[:at] + s[at+1:], s[:at] + b + s[at:]}[r.n(3)]
}

// TestWholeRead: what is shown is read as it was; and what is read is shown as it was, so that nothing else is.
func TestWholeRead(t *testing.T) {
	r := draw(82)
	for range 1000 {
		d, l, x := r.doc(1+r.n(6)), r.list(1), api.Nth{A: r.n(9) - 4, B: r.n(9) - 4}
		s, _ := mark.Show(d)
		if got, err := mark.Read(s); err != api.OK || showDoc(got) != showDoc(d) {
			t.Fatalf("the document %s is read as %s, error %d", s, showDoc(got), err)
		}
		p, _ := path.Show(l)
		if got, err := path.Read(p); err != api.OK || showList(got) != showList(l) {
			t.Fatalf("the list %s is read as %s, error %d", p, showList(got), err)
		}
		n, _ := nth.Show(x)
		if got, err := nth.Read(n); err != api.OK || got != x {
			t.Fatalf("the count %s is read as %v, error %d", n, got, err)
		}
		for range 10 {
			s, p, n := r.changed(s), r.changed(p), r.changed(n)
			if got, err := mark.Read(s); err == api.OK && showDoc(got) != s+" 0" {
				t.Fatalf("the text %q is read as the document %s", s, showDoc(got))
			}
			if got, err := path.Read(p); err == api.OK && showList(got) != p+" 0" {
				t.Fatalf("the text %q is read as the list %s", p, showList(got))
			}
			if got, err := nth.Read(n); err == api.OK && fmt.Sprintf("%dn%+d", got.A, got.B) != n {
				t.Fatalf("the text %q is read as the count %v", n, got)
			}
		}
	}
}

// TestWholeMatch: not is the other way round; more paths match more; the nearest is the nearest.
func TestWholeMatch(t *testing.T) {
	r := draw(83)
	for range 400 {
		d, l, other := r.doc(1+r.n(9)), r.list(2), r.list(2)
		not := api.Test{Kind: api.Not, List: l}
		more := append(slices.Clone(l), other...)
		if len(more) > api.MaxList {
			more = more[:api.MaxList]
		}
		for n := range d.Nodes {
			is, err := match.Matches(d, l, n)
			isNot, e := match.Test(d, not, n)
			if err != api.OK || e != api.OK || is == isNot {
				t.Fatalf("%s in %s: %d matches: %v, and not: %v", showList(l), showDoc(d), n, is, isNot)
			}
			if still, _ := match.Matches(d, more, n); is && !still {
				t.Fatalf("%s in %s: %d matches %s no more", showList(l), showDoc(d), n, showList(more))
			}
			up := n
			for up >= 0 {
				if is, _ := match.Matches(d, l, up); is {
					break
				}
				up = d.Nodes[up].Up
			}
			if got, is, err := match.Nearest(d, l, n); err != api.OK || is != (up >= 0) || is && got != up {
				t.Fatalf("%s in %s: the nearest from %d is %d, %v; must be %d", showList(l), showDoc(d), n, got, is, up)
			}
		}
	}
}

// TestWholeFound: what is found by the index is all that matches, after whatever changes.
func TestWholeFound(t *testing.T) {
	for i := range 20 {
		r := draw(100 + i)
		p, err := live.Open(r.doc(1 + r.n(6)))
		if err != api.OK {
			t.Fatalf("Open: error %d", err)
		}
		for range 50 {
			n, next := r.n(len(p.Doc.Nodes)), p
			switch r.n(4) {
			case 0, 1:
				next, err = live.Insert(p, n, r.n(3), r.doc(1+r.n(4)))
			case 2:
				next, err = live.Remove(p, n)
			default:
				next, err = live.Put(p, n, r.doc(1).Nodes[0])
			}
			if err == api.OK {
				p = next
			}
			wantFound(t, p, r.list(1))
		}
	}
}

func wantFound(t *testing.T, p api.Page, l []api.Path) {
	t.Helper()
	var all []int
	for n := range p.Doc.Nodes {
		if is, _ := match.Matches(p.Doc, l, n); is {
			all = append(all, n)
		}
	}
	if got, err := index.Find(p, l); err != api.OK || !slices.Equal(got, all) {
		t.Fatalf("%s in %s: %v is found, error %d; must be %v", showList(l), showDoc(p.Doc), got, err, all)
	}
}

// TestWholePlain: plainer paths match the same, and are never greater; what is plain stays.
func TestWholePlain(t *testing.T) {
	r := draw(84)
	for range 1000 {
		d, l := r.doc(1+r.n(12)), r.list(1)
		got, err := plain.Plain(l)
		if err != api.OK {
			t.Fatalf("Plain %s: error %d", showList(l), err)
		}
		was, _ := plain.Size(l)
		if is, err := plain.Size(got); err != api.OK || is > was {
			t.Fatalf("%s, plainer %s: of the size %d, which was %d", showList(l), showList(got), is, was)
		}
		all, _ := match.All(d, l)
		page, _ := live.Open(d)
		if found, err := index.Find(page, got); err != api.OK || !slices.Equal(found, all) {
			t.Fatalf("%s, plainer %s: in %s %v, error %d; must be %v", showList(l), showList(got), showDoc(d), found, err, all)
		}
		if again, err := plain.Plain(got); err != api.OK || showList(again) != showList(got) {
			t.Fatalf("%s, which is plain, is plainer %s, error %d", showList(got), showList(again), err)
		}
	}
}
