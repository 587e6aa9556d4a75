package mark_test

import (
	"fmt"
	"math"
	"reflect"
	"runtime/debug"
	"slices"
	"strings"
	"testing"

	"pathfindery/api"
	"pathfindery/mark"
)

// TestP1: no document makes Show panic, or go on for ever, and with an error there is no text.
func TestP1(t *testing.T) {
	ups := []int{math.MinInt, -2, -1, 0, 1, 2, 3, math.MaxInt}
	for _, a := range ups {
		for _, b := range ups {
			for _, c := range ups {
				d := api.Doc{Nodes: []api.Node{{Up: a, Tag: "a"}, {Up: b, Tag: "b"}, {Up: c, Tag: "c"}}}
				want := map[string]string{"-1 0 0": "a(b c)", "-1 0 1": "a(b(c))"}[fmt.Sprint(a, b, c)]
				s, err := mark.Show(d)
				if s != want || (err == api.OK) != (want != "") {
					t.Errorf("P1: Show of Ups %d %d %d: %q, error %d", a, b, c, s, err)
				}
			}
		}
	}
}

// TestP1Deep: elements within elements, however many the text has, take little of the stack.
func TestP1Deep(t *testing.T) {
	defer debug.SetMaxStack(debug.SetMaxStack(8 << 20))
	deep := strings.Repeat("a(", 1<<20)
	wantRefused(t, deep)
	wantRefused(t, deep+"a"+strings.Repeat(")", 1<<20))
}

// TestP2Read: Show only reads what it is handed, spare room and all.
func TestP2Read(t *testing.T) {
	roomy := func() api.Doc {
		classes := []string{"c", "d", "spare"}
		attrs := []api.Attr{{Name: "k", Value: "v"}, {Name: "spare"}}
		nodes := []api.Node{{Up: -1, Tag: "a", Id: "b", Classes: classes[:2], Attrs: attrs[:1]}, {Up: 0, Tag: "e"}, {Up: 9, Tag: "spare"}}
		return api.Doc{Nodes: nodes[:2]}
	}
	d, want := roomy(), roomy()
	mark.Show(d)
	if !reflect.DeepEqual(d.Nodes[:3], want.Nodes[:3]) || !slices.Equal(d.Nodes[0].Classes[:3], want.Nodes[0].Classes[:3]) || !slices.Equal(d.Nodes[0].Attrs[:2], want.Nodes[0].Attrs[:2]) {
		t.Errorf("P2: Show changes what it is handed: %v", d.Nodes[:3])
	}
}

const twice = `a.b.c[d="e"][f=""](a.b.c[d="e"][f=""](a.b.c[d="e"][f=""]) a.b.c[d="e"][f=""])`

// TestP2Apart: no two lists that Read answers share memory, those of two answers neither.
func TestP2Apart(t *testing.T) {
	one, _ := mark.Read(twice)
	two, _ := mark.Read(twice)
	nodes := append(slices.Clone(one.Nodes), two.Nodes...)
	if len(nodes) != 8 {
		t.Fatalf("P2: %d elements", len(nodes))
	}
	scribble := func(i int) {
		for k := range cap(nodes[i].Classes) {
			nodes[i].Classes[:cap(nodes[i].Classes)][k] = fmt.Sprint("own", i)
		}
		for k := range cap(nodes[i].Attrs) {
			nodes[i].Attrs[:cap(nodes[i].Attrs)][k].Name = fmt.Sprint("own", i)
		}
	}
	check := func() {
		t.Helper()
		for i, x := range nodes {
			own := fmt.Sprint("own", i)
			if x.Classes[0] != own || x.Classes[1] != own || x.Attrs[0].Name != own || x.Attrs[1].Name != own {
				t.Errorf("P2: lists of element %d share memory with others", i)
			}
		}
	}
	for i := range nodes {
		scribble(i)
	}
	check()
	for i := len(nodes) - 1; i >= 0; i-- {
		scribble(i)
	}
	check()
}

// TestP3: a call answers the same again, though the answer of the one ahead was changed, and others were refused.
func TestP3(t *testing.T) {
	want, _ := mark.Read(twice)
	for range 3 {
		got, err := mark.Read(twice)
		if err != api.OK || !same(got, want) {
			t.Errorf("P3: Read answers %v, error %d, and %v ahead of it", got, err, want)
		}
		if s, err := mark.Show(got); s != twice || err != api.OK {
			t.Errorf("P3: Show answers %q, error %d", s, err)
		}
		for i := range got.Nodes {
			got.Nodes[i].Tag, got.Nodes[i].Classes[0], got.Nodes[i].Attrs[0].Value = "x", "y", "z"
		}
		wantRefused(t, twice+")")
		wantRefused(t, "a(b")
		if s, err := mark.Show(api.Doc{}); s != "" || err != api.ErrMany {
			t.Errorf("P3: Show of nothing answers %q, error %d", s, err)
		}
	}
}
