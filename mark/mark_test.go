package mark_test

import (
	"fmt"
	"slices"
	"strings"
	"testing"

	"pathfindery/api"
	"pathfindery/doc"
	"pathfindery/mark"
)

// shown is how a document is shown, told kid by kid.
func shown(d api.Doc, n int) string {
	x := d.Nodes[n]
	s := x.Tag
	if x.Id != "" {
		s += "#" + x.Id
	}
	for _, c := range x.Classes {
		s += "." + c
	}
	for _, a := range x.Attrs {
		s += fmt.Sprintf(`[%s="%s"]`, a.Name, a.Value)
	}
	var kids []string
	for i, k := range d.Nodes {
		if k.Up == n {
			kids = append(kids, shown(d, i))
		}
	}
	if len(kids) > 0 {
		s += "(" + strings.Join(kids, " ") + ")"
	}
	return s
}

// same: an empty list may be nil or not.
func same(a, b api.Doc) bool {
	return slices.EqualFunc(a.Nodes, b.Nodes, func(a, b api.Node) bool {
		return a.Up == b.Up && a.Tag == b.Tag && a.Id == b.Id &&
			slices.Equal(a.Classes, b.Classes) && slices.Equal(a.Attrs, b.Attrs)
	})
}

// dresses are elements with all sorts of what one can have.
func dresses() []api.Node {
	return []api.Node{
		{Tag: "a"},
		{Tag: "b-1", Id: "x"},
		{Tag: "c", Classes: []string{"a", "a-", "a0", "aa", "b", "c"}},
		{Tag: "d", Attrs: []api.Attr{{Name: "j", Value: ""}, {Name: "k", Value: `](#.[)= '\`}}},
		{Tag: "abcdefghijkl", Id: "a-----------", Classes: []string{"z0123456789-"}, Attrs: []api.Attr{{Name: "w", Value: "0123456789 ~!()"}, {Name: "x"}, {Name: "y"}, {Name: "z", Value: " "}}},
		{Tag: "e", Id: "e", Attrs: []api.Attr{{Name: "e", Value: "e"}}},
		{Tag: "f", Classes: []string{"f"}, Attrs: []api.Attr{{Name: "f", Value: "f"}}},
		{Tag: "g", Id: "g", Classes: []string{"g"}},
	}
}

// shapes are the rows of Ups of all documents of n elements.
func shapes(n int) [][]int {
	if n == 1 {
		return [][]int{{-1}}
	}
	var rows [][]int
	for _, row := range shapes(n - 1) {
		for up := n - 2; up >= 0; up = row[up] {
			rows = append(rows, append(slices.Clone(row), up))
		}
	}
	return rows
}

// dressed makes a document of a shape, whose elements go through the dresses from one on.
func dressed(shape []int, from int) api.Doc {
	var d api.Doc
	for i, up := range shape {
		list := dresses()
		x := list[(from+i*(1+from%3))%len(list)]
		x.Up = up
		d.Nodes = append(d.Nodes, x)
	}
	return d
}

func wantBoth(t *testing.T, d api.Doc, text string) {
	t.Helper()
	if s, err := mark.Show(d); s != text || err != api.OK {
		t.Errorf("B1: Show: %q, error %d; must be %q", s, err, text)
	}
	if x, err := mark.Read(text); !same(x, d) || err != api.OK {
		t.Errorf("B1: Read %q: %v, error %d; must be %v", text, x, err, d)
	}
}

func wantRefused(t *testing.T, s string) {
	t.Helper()
	if d, err := mark.Read(s); err != api.ErrForm || len(d.Nodes) != 0 {
		t.Errorf("B1: Read %.80q: %d elements, error %d; must be refused", s, len(d.Nodes), err)
	}
}

func TestB1Example(t *testing.T) {
	d := api.Doc{Nodes: []api.Node{
		{Up: -1, Tag: "list", Id: "top"},
		{Up: 0, Tag: "item", Classes: []string{"a"}},
		{Up: 0, Tag: "item", Classes: []string{"b"}},
		{Up: 2, Tag: "link", Attrs: []api.Attr{{Name: "to", Value: "one two"}}},
		{Up: 0, Tag: "item", Classes: []string{"a"}},
	}}
	wantBoth(t, d, `list#top(item.a item.b(link[to="one two"]) item.a)`)
}

func TestB1Parts(t *testing.T) {
	x := api.Node{Up: -1, Tag: "a", Id: "b", Classes: []string{"c", "d"}, Attrs: []api.Attr{{Name: "e", Value: "f"}, {Name: "g", Value: ""}}}
	y := api.Node{Up: 0, Tag: "h"}
	wantBoth(t, api.Doc{Nodes: []api.Node{x}}, `a#b.c.d[e="f"][g=""]`)
	wantBoth(t, api.Doc{Nodes: []api.Node{x, y}}, `a#b.c.d[e="f"][g=""](h)`)
	wantBoth(t, api.Doc{Nodes: []api.Node{x, y, y}}, `a#b.c.d[e="f"][g=""](h h)`)
	wantBoth(t, api.Doc{Nodes: []api.Node{{Up: -1, Tag: "a"}}}, `a`)
}

// TestB2Round: all documents of a few elements, in all sorts of dress, are shown, and read as they were.
func TestB2Round(t *testing.T) {
	for n := 1; n <= 6; n++ {
		for _, shape := range shapes(n) {
			for from := range 24 {
				d := dressed(shape, from)
				wantBoth(t, d, shown(d, 0))
			}
		}
	}
}

// of makes a document of n elements, each a kid of the first (deep: of the one ahead).
func of(n int, deep bool) api.Doc {
	var d api.Doc
	for i := range n {
		x := api.Node{Up: min(0, i-1), Tag: "a"}
		if deep {
			x.Up = i - 1
		}
		d.Nodes = append(d.Nodes, x)
	}
	return d
}

func TestB1Bounds(t *testing.T) {
	for _, n := range []int{1, 2, 63, 64} {
		wantBoth(t, of(n, true), shown(of(n, true), 0))
		wantBoth(t, of(n, false), shown(of(n, false), 0))
	}
	for _, n := range []int{65, 66, 200} {
		wantRefused(t, shown(of(n, true), 0))
		wantRefused(t, shown(of(n, false), 0))
	}
	name, value := strings.Repeat("n", 12), strings.Repeat("V", 16)
	for _, form := range []string{"%s", "a#%s", "a.%s", `a[%s=""]`, "a(%s)"} {
		s := fmt.Sprintf(form, name)
		if got, err := mark.Read(s); err != api.OK || shown(got, 0) != s {
			t.Errorf("B1: Read %q: %v, error %d", s, got, err)
		}
		wantRefused(t, fmt.Sprintf(form, name+"n"))
		wantRefused(t, fmt.Sprintf(form, ""))
	}
	wantBoth(t, api.Doc{Nodes: []api.Node{{Up: -1, Tag: "a", Attrs: []api.Attr{{Name: "k", Value: value}}}}}, `a[k="`+value+`"]`)
	wantRefused(t, `a[k="`+value+`V"]`)
	wantRefused(t, "a.a.b.c.d.e.f.g")
	wantRefused(t, `a[a=""][b=""][c=""][d=""][e=""]`)
	wantRefused(t, "b(a.a.b.c.d.e.f.g a)")
	wantRefused(t, `b(a[a=""][b=""][c=""][d=""][e=""])`)
}

func TestB1ShowErrors(t *testing.T) {
	for _, c := range []struct {
		d    api.Doc
		want api.Errno
	}{
		{api.Doc{}, api.ErrMany},
		{of(65, true), api.ErrMany},
		{of(65, false), api.ErrMany},
		{api.Doc{Nodes: make([]api.Node, 65)}, api.ErrMany},
		{api.Doc{Nodes: make([]api.Node, 64)}, api.ErrForm},
		{api.Doc{Nodes: []api.Node{{Tag: "a"}}}, api.ErrForm},
		{api.Doc{Nodes: []api.Node{{Up: -1}}}, api.ErrForm},
		{api.Doc{Nodes: []api.Node{{Up: -1, Tag: "a"}, {Up: 1, Tag: "a"}}}, api.ErrForm},
		{api.Doc{Nodes: []api.Node{{Up: -1, Tag: "a", Classes: []string{"b", "a"}}}}, api.ErrForm},
		{api.Doc{Nodes: []api.Node{{Up: -1, Tag: "a", Attrs: []api.Attr{{Name: "k", Value: `"`}}}}}, api.ErrForm},
	} {
		if s, err := mark.Show(c.d); s != "" || err != c.want {
			t.Errorf("B1: Show %v: %q, error %d; must be %d", c.d, s, err, c.want)
		}
	}
}

func TestB1ReadErrors(t *testing.T) {
	for _, s := range []string{
		"", " ", "a ", " a", "a\n", "a b", "(a)", "a()", "a( )", "a( b)", "a(b )", "a(b  c)", "a(b,c)", "a(b", "a(b(c)", "a(b))", "a)", "a(b)(c)", "a(b)c", "a(b)#x", "a(b).c", "a(b(c)d)", "a (b)", "a((b))",
		"#x", ".x", "a#", "a#x#y", "a##x", "a.", "a..b", "a.b#x", "a.b.a", "a.b.b", "a.ab.a", "a# x", "a#X", "a#1", "A", "1", "-", "a_b", "a*", "*",
		`[k="v"]`, `a[]`, `a[k]`, `a[k=]`, `a[k="]`, `a[k=""`, `a[k="v]`, `a[k=v]`, `a[k='v']`, `a[k ="v"]`, `a[k= "v"]`, `a[ k="v"]`, `a[k="v" ]`, `a[="v"]`, `a[K="v"]`, `a[k="""]`, `a[k="v"]]`, `a[k="v"]x`, `a[k="v"].b`, `a[k="v"]#b`, `a [k="v"]`,
		`a[k="1"][k="2"]`, `a[k=""][j=""]`, `a[k^="v"]`, "a[k=\"\n\"]", "a[k=\"\x7f\"]", "a[k=\"\xc3\xa9\"]", "a\x00", "\xff", "é",
	} {
		wantRefused(t, s)
	}
	const many = 1 << 20
	for _, s := range []string{"a", "a(", "(", ")", "a ", "a.", "a.a", ".a", "a[", `[a=""]`, `a[a="`, "\"", " ", "a)", "a(b c)"} {
		wantRefused(t, strings.Repeat(s, many))
		wantRefused(t, "a("+strings.Repeat(s, many))
		wantRefused(t, `a[k="`+strings.Repeat(s, many))
	}
}

// wantExact: whatever is read is a right document, and shown so.
func wantExact(t *testing.T, s string) {
	t.Helper()
	d, err := mark.Read(s)
	switch {
	case err == api.ErrForm && len(d.Nodes) == 0:
	case err != api.OK || doc.Check(d) != api.OK:
		t.Errorf("B2: Read %q: %v, error %d", s, d, err)
	case shown(d, 0) != s:
		t.Errorf("B2: Read %q: %v, which is shown %q", s, d, shown(d, 0))
	}
}

// TestB2Short reads all short texts of a few letters.
func TestB2Short(t *testing.T) {
	const letters = `ab#.()[]=" `
	var read func(s string, more int)
	read = func(s string, more int) {
		wantExact(t, s)
		for i := range letters {
			if more > 0 {
				read(s+letters[i:i+1], more-1)
			}
		}
	}
	read("", 5)
}

// TestB2EveryByte puts every byte at every place of a text, and takes each away.
func TestB2EveryByte(t *testing.T) {
	const s = `a#b.c.d[e="f g"][h=""](i.j(k) l[m="n"](o p))`
	for i := range len(s) {
		wantExact(t, s[:i]+s[i+1:])
		if wantExact(t, s[:i]); strings.Contains(s[:i], "(") {
			wantRefused(t, s[:i])
		}
		for b := range 256 {
			c := string([]byte{byte(b)})
			wantExact(t, s[:i]+c+s[i:])
			wantExact(t, s[:i]+c+s[i+1:])
			wantRefused(t, s+c)
		}
	}
}
