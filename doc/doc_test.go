package doc_test

import (
	"fmt"
	"math"
	"slices"
	"testing"

	"pathfindery/api"
	"pathfindery/doc"
)

// TestA2 holds Kids, Under and Part of every small tree against the tree.
func TestA2(t *testing.T) {
	for size := 1; size <= 6; size++ {
		for _, top := range trees(size, "x") {
			d := flat(top)
			list := all(top)
			for n, x := range list {
				what := fmt.Sprintf("A2: element %d of Ups %s", n, ups(d))
				var kids []int
				for _, k := range x.kids {
					kids = append(kids, slices.Index(list, k))
				}
				got, err := doc.Kids(d, n)
				if err != api.OK || !slices.Equal(got, kids) {
					t.Errorf("%s: kids %v, error %d; must be %v", what, got, err, kids)
				}
				under, err := doc.Under(d, n)
				if err != api.OK || under != len(all(x))-1 {
					t.Errorf("%s: %d under it, error %d; must be %d", what, under, err, len(all(x))-1)
				}
				part, err := doc.Part(d, n)
				wantDoc(t, what+": Part", part, err, flat(x))
			}
		}
	}
}

// outside are numbers that no element of a document with that many has.
func outside(size int) []int {
	return []int{-1, -2, size, size + 1, 64, 65, math.MinInt, math.MaxInt}
}

func TestA2None(t *testing.T) {
	for _, d := range []api.Doc{row(1), row(5), chain(5), row(63)} {
		for _, n := range outside(len(d.Nodes)) {
			what := fmt.Sprintf("A2: element %d of %d", n, len(d.Nodes))
			kids, err := doc.Kids(d, n)
			wantErr(t, what+": Kids", err, api.ErrNone)
			under, err := doc.Under(d, n)
			wantErr(t, what+": Under", err, api.ErrNone)
			if len(kids) != 0 || under != 0 {
				t.Errorf("%s: kids %v, under %d", what, kids, under)
			}
			part, err := doc.Part(d, n)
			wantNoDoc(t, what+": Part", part, err, api.ErrNone)
		}
	}
}

func TestA2Full(t *testing.T) {
	d := row(64)
	kids, err := doc.Kids(d, 0)
	if err != api.OK || len(kids) != 63 || kids[0] != 1 || kids[62] != 63 {
		t.Errorf("A2: kids of a full row: %v, error %d", kids, err)
	}
	for n := range 64 {
		under, err := doc.Under(chain(64), n)
		if err != api.OK || under != 63-n {
			t.Errorf("A2: under %d of a full chain: %d, error %d", n, under, err)
		}
	}
	part, err := doc.Part(d, 0)
	wantDoc(t, "A2: all of a full row", part, err, d)
}

// TestExample1 is the document's first example.
func TestExample1(t *testing.T) {
	link := api.Node{Up: 2, Tag: "link", Attrs: []api.Attr{{Name: "to", Value: "one two"}}}
	d := doc1(api.Node{Up: -1, Tag: "list", Id: "top"}, node(0, "item", "a"), node(0, "item", "b"), link, node(0, "item", "a"))
	under, err := doc.Under(d, 2)
	if under != 1 || err != api.OK {
		t.Errorf("example 1: %d under element 2, error %d", under, err)
	}
}

// TestA3Insert holds Insert into every small tree, at every place, against the tree.
func TestA3Insert(t *testing.T) {
	for size := 1; size <= 5; size++ {
		for _, top := range trees(size, "x") {
			for more := 1; more <= 3; more++ {
				for _, e := range trees(more, "y") {
					insertAll(t, top, e)
				}
			}
		}
	}
}

// insertAll inserts e at every place.
func insertAll(t *testing.T, top, e *tree) {
	t.Helper()
	d := flat(top)
	for up, x := range all(top) {
		for at := range len(x.kids) + 1 {
			want := copied(top)
			y := all(want)[up]
			y.kids = slices.Insert(y.kids, at, e)
			what := fmt.Sprintf("A3: Insert %s into %s, %d %d", ups(flat(e)), ups(d), up, at)
			got, err := doc.Insert(d, up, at, flat(e))
			wantDoc(t, what, got, err, flat(want))
			wantErr(t, what+": Check", doc.Check(got), api.OK)
			backAgain(t, d, got, flat(e), up, at)
		}
	}
}

// backAgain: what was inserted is the part there, and removed again it leaves the document as it was (A4).
func backAgain(t *testing.T, d, got, e api.Doc, up, at int) {
	t.Helper()
	kids, err := doc.Kids(got, up)
	if err != api.OK || at >= len(kids) {
		t.Errorf("A4: kids %v, error %d", kids, err)
		return
	}
	what := fmt.Sprintf("A4: %s in %s, %d %d", ups(e), ups(d), up, at)
	part, err := doc.Part(got, kids[at])
	wantDoc(t, what+": Part", part, err, e)
	left, err := doc.Remove(got, kids[at])
	wantDoc(t, what+": Remove", left, err, d)
}

func TestA3InsertRange(t *testing.T) {
	e := row(2)
	for _, top := range trees(5, "x") {
		d := flat(top)
		for up, x := range all(top) {
			for _, at := range []int{-1, -2, len(x.kids) + 1, len(x.kids) + 2, math.MinInt, math.MaxInt} {
				got, err := doc.Insert(d, up, at, e)
				wantNoDoc(t, fmt.Sprintf("A3: Insert into %s, %d %d", ups(d), up, at), got, err, api.ErrRange)
			}
		}
		for _, up := range outside(5) {
			for _, at := range []int{0, 1, -1, math.MaxInt} {
				got, err := doc.Insert(d, up, at, e)
				wantNoDoc(t, fmt.Sprintf("A3: Insert into %s, %d %d", ups(d), up, at), got, err, api.ErrNone)
			}
		}
	}
}

func TestA3InsertMany(t *testing.T) {
	for _, c := range []struct{ have, more int }{{1, 63}, {63, 1}, {32, 32}, {60, 4}} {
		got, err := doc.Insert(row(c.have), 0, 0, chain(c.more))
		if err != api.OK || len(got.Nodes) != 64 || doc.Check(got) != api.OK {
			t.Errorf("A3: %d and %d elements: %d, error %d", c.have, c.more, len(got.Nodes), err)
		}
		backAgain(t, row(c.have), got, chain(c.more), 0, 0)
	}
	for _, c := range []struct{ have, more int }{{1, 64}, {64, 1}, {33, 32}, {32, 33}, {64, 64}} {
		got, err := doc.Insert(row(c.have), 0, 0, chain(c.more))
		wantNoDoc(t, fmt.Sprintf("A3: %d and %d elements", c.have, c.more), got, err, api.ErrMany)
		got, err = doc.Insert(row(c.have), 0, -1, chain(c.more))
		wantNoDoc(t, "A3: ErrRange ahead of ErrMany", got, err, api.ErrRange)
		got, err = doc.Insert(row(c.have), 64, -1, chain(c.more))
		wantNoDoc(t, "A3: ErrNone ahead of the others", got, err, api.ErrNone)
	}
}

// TestA3Remove holds Remove from every small tree against the tree.
func TestA3Remove(t *testing.T) {
	for size := 1; size <= 6; size++ {
		for _, top := range trees(size, "x") {
			d := flat(top)
			for n := 1; n < size; n++ {
				want := copied(top)
				gone := all(want)[n]
				for _, x := range all(want) {
					x.kids = slices.DeleteFunc(x.kids, func(k *tree) bool { return k == gone })
				}
				got, err := doc.Remove(d, n)
				wantDoc(t, fmt.Sprintf("A3: Remove %d from %s", n, ups(d)), got, err, flat(want))
			}
			got, err := doc.Remove(d, 0)
			wantNoDoc(t, "A3: Remove 0 from "+ups(d), got, err, api.ErrRange)
			for _, n := range outside(size) {
				got, err = doc.Remove(d, n)
				wantNoDoc(t, fmt.Sprintf("A3: Remove %d from %s", n, ups(d)), got, err, api.ErrNone)
			}
		}
	}
}

func TestA3Put(t *testing.T) {
	for _, top := range trees(5, "x") {
		d := flat(top)
		for n := range d.Nodes {
			for i, up := range []int{-1, 0, n, 99, math.MinInt, math.MaxInt} {
				x := dressed("new", i)
				x.Up = up
				want := cloneDoc(d)
				want.Nodes[n] = clone(x)
				want.Nodes[n].Up = d.Nodes[n].Up
				got, err := doc.Put(d, n, x)
				wantDoc(t, fmt.Sprintf("A3: Put %d of %s", n, ups(d)), got, err, want)
			}
		}
	}
}

func TestA3PutErrors(t *testing.T) {
	d := chain(3)
	for _, x := range append(wrongNodes(), node(0, "a")) {
		for _, n := range outside(3) {
			got, err := doc.Put(d, n, x)
			wantNoDoc(t, fmt.Sprintf("A3: Put %d", n), got, err, api.ErrNone)
		}
	}
	for _, x := range wrongNodes() {
		for n := range 3 {
			x.Up = n - 1
			got, err := doc.Put(d, n, x)
			wantNoDoc(t, fmt.Sprintf("A3: Put %v", x), got, err, api.ErrForm)
		}
	}
	got, err := doc.Put(d, 1, api.Node{Up: -7, Tag: "b", Classes: []string{}, Attrs: []api.Attr{}})
	wantDoc(t, "A3: Put of empty lists", got, err, doc1(node(-1, "a"), node(0, "b"), node(1, "a")))
}

// TestA4 inserts every part of a document into it again.
func TestA4(t *testing.T) {
	for _, top := range trees(6, "x") {
		d := flat(top)
		for n := range d.Nodes {
			part, _ := doc.Part(d, n)
			for up := range d.Nodes {
				kids, _ := doc.Kids(d, up)
				for at := range len(kids) + 1 {
					got, err := doc.Insert(d, up, at, part)
					wantErr(t, "A4: Insert", err, api.OK)
					backAgain(t, d, got, part, up, at)
				}
			}
		}
	}
}
