package doc_test

import (
	"fmt"
	"math"
	"slices"
	"strings"
	"testing"

	"pathfindery/api"
	"pathfindery/doc"
)

// places puts a name at each place where one can stand.
func places(name string) map[string]api.Node {
	return map[string]api.Node{
		"Tag":   {Up: -1, Tag: name},
		"Id":    {Up: -1, Tag: "a", Id: name},
		"class": {Up: -1, Tag: "a", Classes: []string{name}},
		"Name":  {Up: -1, Tag: "a", Attrs: []api.Attr{{Name: name}}},
	}
}

func wantName(t *testing.T, name string, right bool) {
	t.Helper()
	for place, x := range places(name) {
		want := api.ErrForm
		if right || place == "Id" && name == "" {
			want = api.OK
		}
		wantErr(t, fmt.Sprintf("A1: %s %q", place, name), doc.Check(doc1(x)), want)
	}
}

func TestA1NameBytes(t *testing.T) {
	for b := range 256 {
		c := byte(b)
		letter := strings.IndexByte("abcdefghijklmnopqrstuvwxyz", c) >= 0
		inner := letter || strings.IndexByte("0123456789-", c) >= 0
		wantName(t, string([]byte{c}), letter)
		wantName(t, string([]byte{'a', c}), inner)
		wantName(t, string([]byte{'a', c, 'a'}), inner)
		wantName(t, "abcdefghijk"+string([]byte{c}), inner)
	}
}

func TestA1NameLength(t *testing.T) {
	for n := range 30 {
		wantName(t, strings.Repeat("a", n), n >= 1 && n <= 12)
	}
	wantName(t, strings.Repeat("a", 1<<20), false)
	wantName(t, "a"+strings.Repeat("é", 5), false)
}

func wantValue(t *testing.T, value string, right bool) {
	t.Helper()
	want := api.ErrForm
	if right {
		want = api.OK
	}
	x := api.Node{Up: -1, Tag: "a", Attrs: []api.Attr{{Name: "k", Value: value}}}
	wantErr(t, fmt.Sprintf("A1: Value %q", value), doc.Check(doc1(x)), want)
	x.Attrs = []api.Attr{{Name: "j"}, {Name: "k"}, {Name: "l", Value: value}}
	wantErr(t, fmt.Sprintf("A1: third Value %q", value), doc.Check(doc1(x)), want)
}

func TestA1Values(t *testing.T) {
	for b := range 256 {
		right := b >= 32 && b <= 126 && b != '"'
		wantValue(t, string([]byte{byte(b)}), right)
		wantValue(t, string([]byte{'a', byte(b)}), right)
		wantValue(t, "abcdefghijklmno"+string([]byte{byte(b)}), right)
	}
	for n := range 40 {
		wantValue(t, strings.Repeat("V", n), n <= 16)
	}
}

func TestA1Classes(t *testing.T) {
	for _, c := range []struct {
		classes string
		want    api.Errno
	}{
		{"a b c d e f", api.OK},
		{"a b c d e f g", api.ErrForm},
		{"a b", api.OK},
		{"b a", api.ErrForm},
		{"a a", api.ErrForm},
		{"a c b", api.ErrForm},
		{"a b b", api.ErrForm},
		{"b c a", api.ErrForm},
		{"a ab", api.OK},
		{"ab a", api.ErrForm},
		{"a- a0", api.OK},
		{"a0 a-", api.ErrForm},
		{"a9 aa", api.OK},
		{"aa a9", api.ErrForm},
		{"a10 a9", api.OK},
		{"az b", api.OK},
		{"b az", api.ErrForm},
		{"a B", api.ErrForm},
		{"a b 1", api.ErrForm},
	} {
		x := node(-1, "a", strings.Fields(c.classes)...)
		wantErr(t, "A1: classes "+c.classes, doc.Check(doc1(x)), c.want)
	}
	wantErr(t, "A1: an empty class", doc.Check(doc1(node(-1, "a", ""))), api.ErrForm)
}

func TestA1Attrs(t *testing.T) {
	for _, c := range []struct {
		attrs string
		want  api.Errno
	}{
		{"", api.OK},
		{"a b c d", api.OK},
		{"a b c d e", api.ErrForm},
		{"b a", api.ErrForm},
		{"a=1 a=2", api.ErrForm},
		{"a=2 a=1", api.ErrForm},
		{"a=2 b=1", api.OK},
		{"a=1 b=1", api.OK},
		{"b=1 a=2", api.ErrForm},
		{"a c b", api.ErrForm},
		{"a ab", api.OK},
		{"ab a", api.ErrForm},
		{"a- a0", api.OK},
		{"a0 a-", api.ErrForm},
	} {
		x := node(-1, "a")
		for _, f := range strings.Fields(c.attrs) {
			name, value, _ := strings.Cut(f, "=")
			x.Attrs = append(x.Attrs, api.Attr{Name: name, Value: value})
		}
		wantErr(t, "A1: attributes "+c.attrs, doc.Check(doc1(x)), c.want)
	}
}

// TestA1Ups holds every row of Ups against the rows that trees have.
func TestA1Ups(t *testing.T) {
	for n := 1; n <= 5; n++ {
		right := map[string]int{}
		for _, x := range trees(n, "x") {
			right[ups(flat(x))]++
		}
		d := chain(n)
		for code := range pow(n+3, n) {
			for i := range d.Nodes {
				d.Nodes[i].Up = code%(n+3) - 2
				code /= n + 3
			}
			want := api.ErrForm
			if right[ups(d)] > 0 {
				want = api.OK
			}
			wantErr(t, "A1: Ups "+ups(d), doc.Check(d), want)
		}
	}
	for _, up := range []int{math.MinInt, math.MaxInt, 64, -64} {
		for i := range 3 {
			d := chain(3)
			d.Nodes[i].Up = up
			wantErr(t, fmt.Sprintf("A1: Up %d of element %d", up, i), doc.Check(d), api.ErrForm)
		}
	}
}

func ups(d api.Doc) string {
	s := ""
	for _, x := range d.Nodes {
		s += fmt.Sprint(x.Up, " ")
	}
	return s
}

func pow(b, e int) int {
	p := 1
	for range e {
		p *= b
	}
	return p
}

func TestA1Many(t *testing.T) {
	wantErr(t, "A1: nil", doc.Check(api.Doc{}), api.ErrMany)
	wantErr(t, "A1: no elements", doc.Check(api.Doc{Nodes: []api.Node{}}), api.ErrMany)
	for _, n := range []int{1, 2, 63, 64} {
		wantErr(t, fmt.Sprint("A1: row of ", n), doc.Check(row(n)), api.OK)
		wantErr(t, fmt.Sprint("A1: chain of ", n), doc.Check(chain(n)), api.OK)
	}
	for _, n := range []int{65, 66, 1000} {
		wantErr(t, fmt.Sprint("A1: row of ", n), doc.Check(row(n)), api.ErrMany)
		wantErr(t, fmt.Sprint("A1: wrong elements ", n), doc.Check(api.Doc{Nodes: make([]api.Node, n)}), api.ErrMany)
	}
}

// wrongNodes are elements that are not right, wherever they hang.
func wrongNodes() []api.Node {
	many := strings.Fields("a b c d e f g")
	var attrs []api.Attr
	for _, name := range many[:5] {
		attrs = append(attrs, api.Attr{Name: name})
	}
	return []api.Node{
		{},
		{Tag: "A"},
		{Tag: "a", Id: "1"},
		{Tag: "a", Classes: many},
		{Tag: "a", Classes: []string{"b", "a"}},
		{Tag: "a", Classes: []string{""}},
		{Tag: "a", Attrs: attrs},
		{Tag: "a", Attrs: []api.Attr{{}}},
		{Tag: "a", Attrs: []api.Attr{{Name: "k", Value: "\n"}}},
		{Tag: "a", Attrs: []api.Attr{{Name: "k"}, {Name: "k"}}},
	}
}

func TestA1EveryElement(t *testing.T) {
	for _, x := range wrongNodes() {
		for i := range 5 {
			d := chain(5)
			x.Up = i - 1
			d.Nodes[i] = x
			wantErr(t, fmt.Sprintf("A1: %v as element %d", x, i), doc.Check(d), api.ErrForm)
		}
	}
}

// TestA1First: the other calls tell Check's error ahead of all others.
func TestA1First(t *testing.T) {
	form, many, right := doc1(node(-1, "a"), node(-1, "b")), row(65), row(2)
	for _, c := range []struct {
		d    api.Doc
		want api.Errno
	}{{form, api.ErrForm}, {many, api.ErrMany}, {api.Doc{}, api.ErrMany}} {
		for _, n := range []int{-1, 0, 1, 99} {
			what := fmt.Sprintf("A1: %d of a document with error %d", n, c.want)
			kids, err := doc.Kids(c.d, n)
			wantErr(t, what+": Kids", err, c.want)
			under, err := doc.Under(c.d, n)
			wantErr(t, what+": Under", err, c.want)
			if len(kids) != 0 || under != 0 {
				t.Errorf("%s: %v, %d", what, kids, under)
			}
			got, err := doc.Part(c.d, n)
			wantNoDoc(t, what+": Part", got, err, c.want)
			got, err = doc.Remove(c.d, n)
			wantNoDoc(t, what+": Remove", got, err, c.want)
			got, err = doc.Put(c.d, n, api.Node{})
			wantNoDoc(t, what+": Put", got, err, c.want)
			for _, e := range []api.Doc{form, many, right} {
				got, err = doc.Insert(c.d, n, n, e)
				wantNoDoc(t, what+": Insert into it", got, err, c.want)
			}
			got, err = doc.Insert(right, n, n, c.d)
			wantNoDoc(t, what+": Insert of it", got, err, c.want)
		}
	}
}

func TestA1FullElement(t *testing.T) {
	x := api.Node{Up: -1, Tag: "abcdefghijkl", Id: "z-0123456789"}
	for _, c := range "abcdef" {
		x.Classes = append(x.Classes, strings.Repeat(string(c), 12))
	}
	for _, c := range "wxyz" {
		x.Attrs = append(x.Attrs, api.Attr{Name: strings.Repeat(string(c), 12), Value: " !#$%&'()*+,-./~"})
	}
	wantErr(t, "A1: a full element", doc.Check(doc1(x)), api.OK)
	y := clone(x)
	slices.Reverse(y.Classes)
	wantErr(t, "A1: its classes fall", doc.Check(doc1(y)), api.ErrForm)
	y = clone(x)
	slices.Reverse(y.Attrs)
	wantErr(t, "A1: its attributes fall", doc.Check(doc1(y)), api.ErrForm)
}
