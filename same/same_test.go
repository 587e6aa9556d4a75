package same_test

import (
	"slices"
	"strings"
	"testing"

	"pathfindery/same"
)

func equal(a, b int) bool { return a == b }

func TestLists(t *testing.T) {
	lists := [][]int{nil, {1}, {2}, {1, 2}, {2, 1}, {1, 2, 3}, {1, 2, 4}, {0, 2, 3}}
	for i, a := range lists {
		for k, b := range lists {
			if got := same.Lists(a, slices.Clone(b), equal); got != (i == k) {
				t.Errorf("Lists %v %v: %v", a, b, got)
			}
		}
	}
	if !same.Lists(nil, []int{}, equal) {
		t.Error("Lists: an empty list is not the same as none")
	}
	if !same.Lists([]string{"a", "B"}, []string{"A", "b"}, strings.EqualFold) {
		t.Error("Lists: it is not asked as it is told")
	}
}

func TestFirsts(t *testing.T) {
	for _, c := range []struct{ l, want []int }{
		{nil, nil}, {[]int{1}, []int{1}}, {[]int{1, 1}, []int{1}}, {[]int{2, 1, 2, 3, 1, 2}, []int{2, 1, 3}}, {[]int{1, 2, 3}, []int{1, 2, 3}},
	} {
		before := slices.Clone(c.l)
		got := same.Firsts(c.l, equal)
		if !slices.Equal(got, c.want) || !slices.Equal(c.l, before) {
			t.Errorf("Firsts %v: %v, and the list is %v then", before, got, c.l)
		}
		if len(got) > 0 && &got[0] == &c.l[0] {
			t.Errorf("Firsts %v: the answer is no list of its own", before)
		}
	}
	words := same.Firsts([]string{"b", "A", "a", "B"}, strings.EqualFold)
	if !slices.Equal(words, []string{"b", "A"}) {
		t.Errorf("Firsts: %v", words)
	}
}
