package match_test

import (
	"fmt"
	"math"
	"slices"
	"testing"

	"pathfindery/api"
	"pathfindery/mark"
	"pathfindery/match"
	"pathfindery/path"
)

// TestExample3 is the document's third example, and its fifth.
func TestExample3(t *testing.T) {
	d := readDoc(t, `list#top(item.a item.b(link[to="one two"]) item.a)`)
	wantMatch(t, d, readList(t, `item:not(*:last(0n+1)) + *:has(*[to~="two"])`), []int{2})
	if n, is, err := match.Nearest(d, readList(t, "list"), 3); n != 0 || !is || err != api.OK {
		t.Errorf("example 5: %d, %v, error %d", n, is, err)
	}
}

// The elements:       0         1            2               3                   4                            5    6    7
const sample = `list#top.a(item.a[k=""] item.a.b[k="v"](link[to="one two"] link#x[to="one  two"][z=" v "]) item(item item))`

func wantSample(t *testing.T, cases map[string][]int) {
	t.Helper()
	d := readDoc(t, sample)
	for s, want := range cases {
		wantMatch(t, d, readList(t, s), want)
	}
}

func TestE2Has(t *testing.T) {
	wantSample(t, map[string][]int{
		"*.a":     {0, 1, 2},
		"*.b":     {2},
		"*.a.b":   {2},
		"*.top":   nil,
		"*.item":  nil,
		"*#top":   {0},
		"*#x":     {4},
		"*#a":     nil,
		"*#x#top": nil,
		"*[k]":    {1, 2},
		"*[to]":   {3, 4},
		"*[z]":    {4},
		"*[x]":    nil,
		"*[v]":    nil,
	})
}

func TestE2Attr(t *testing.T) {
	wantSample(t, map[string][]int{
		`*[k="v"]`:         {2},
		`*[k=""]`:          {1},
		`*[z=""]`:          nil,
		`*[x=""]`:          nil,
		`*[to="one two"]`:  {3},
		`*[to="one  two"]`: {4},
		`*[to="one"]`:      nil,
		`*[z="v"]`:         nil,
		`*[k=" v "]`:       nil,

		`*[to^="one "]`:     {3, 4},
		`*[to^="one two"]`:  {3},
		`*[to^="one two "]`: nil,
		`*[to^="ne"]`:       nil,
		`*[to^=""]`:         nil,
		`*[k^=""]`:          nil,
		`*[k^="v"]`:         {2},
		`*[z^="v"]`:         nil,

		`*[to$=" two"]`:     {3, 4},
		`*[to$="one two"]`:  {3},
		`*[to$="tw"]`:       nil,
		`*[to$=""]`:         nil,
		`*[k$=""]`:          nil,
		`*[z$="v "]`:        {4},
		`*[to$=" one two"]`: nil,

		`*[to*="e"]`:        {3, 4},
		`*[to*="e t"]`:      {3},
		`*[to*="one  two"]`: {4},
		`*[to*="x"]`:        nil,
		`*[to*=""]`:         nil,
		`*[k*=""]`:          nil,
		`*[z*="v"]`:         {4},

		`*[to~="one"]`:      {3, 4},
		`*[to~="two"]`:      {3, 4},
		`*[to~="one two"]`:  nil,
		`*[to~="one  two"]`: nil,
		`*[to~="on"]`:       nil,
		`*[to~="wo"]`:       nil,
		`*[to~=" one"]`:     nil,
		`*[to~=""]`:         nil,
		`*[to~=" "]`:        nil,
		`*[k~=""]`:          nil,
		`*[k~="v"]`:         {2},
		`*[z~="v"]`:         {4},
		`*[z~=" v "]`:       nil,
		`*[z~=""]`:          nil,
	})
}

// TestE2Values asks for every short value of a few letters in every other.
func TestE2Values(t *testing.T) {
	values := []string{""}
	for i := 0; i < len(values); i++ {
		for _, c := range "a b" {
			if len(values[i]) < 4 {
				values = append(values, values[i]+string(c))
			}
		}
	}
	for _, value := range values {
		d := api.Doc{Nodes: []api.Node{{Up: -1, Tag: "a", Attrs: []api.Attr{{Name: "j", Value: "a"}, {Name: "k", Value: value}, {Name: "l", Value: "a"}}}}}
		for _, asked := range values {
			for kind := api.AttrIs; kind <= api.AttrWord; kind++ {
				want := isValue(kind, value, asked)
				if got, err := match.Test(d, api.Test{Kind: kind, Name: "k", Value: asked}, 0); got != want || err != api.OK {
					t.Errorf("E2: kind %d, %q of %q: %v, error %d", kind, asked, value, got, err)
				}
			}
		}
	}
}

func TestE2Count(t *testing.T) {
	wantSample(t, map[string][]int{
		"*:nth(0n+1)":               {0, 1, 3, 6},
		"*:nth(0n+2)":               {2, 4, 7},
		"*:nth(0n+3)":               {5},
		"*:nth(0n+4)":               nil,
		"*:nth(0n+0)":               nil,
		"*:nth(2n+1)":               {0, 1, 3, 5, 6},
		"*:nth(2n+0)":               {2, 4, 7},
		"*:nth(-1n+2)":              {0, 1, 2, 3, 4, 6, 7},
		"*:nth(1n-5)":               {0, 1, 2, 3, 4, 5, 6, 7},
		"*:nth(-1n-5)":              nil,
		"*:last(0n+1)":              {0, 4, 5, 7},
		"*:last(0n+2)":              {2, 3, 6},
		"*:last(0n+3)":              {1},
		"*:last(2n+1)":              {0, 1, 4, 5, 7},
		"*:last(-1n+2)":             {0, 2, 3, 4, 5, 6, 7},
		"*:last(0n+0)":              nil,
		"*:nth(0n+1):last(0n+1)":    {0},
		"*:nth(0n+2):last(0n+2)":    {2},
		"item:nth(0n+1)":            {1, 6},
		"*:nth(1048576n-1048575)":   {0, 1, 3, 6},
		"*:last(-1048576n+1048576)": nil,
	})
}

func TestE2Place(t *testing.T) {
	wantSample(t, map[string][]int{
		"*:empty":      {1, 3, 4, 6, 7},
		"item:empty":   {1, 6, 7},
		"*:root":       {0},
		"item:root":    nil,
		"*:root:empty": nil,
	})
	wantMatch(t, readDoc(t, "a"), readList(t, "*:root:empty:nth(0n+1):last(0n+1)"), []int{0})
}

func TestE2Lists(t *testing.T) {
	wantSample(t, map[string][]int{
		"*:not(*)":                nil,
		"*:not(item)":             {0, 3, 4},
		"*:not(item, link#x)":     {0, 3},
		"*:not(item.a, *:empty)":  {0, 5},
		"*:not(list > item)":      {0, 3, 4, 6, 7},
		"item:not(*.a)":           {5, 6, 7},
		"*:not(*:not(item))":      {1, 2, 5, 6, 7},
		"*:is(*)":                 {0, 1, 2, 3, 4, 5, 6, 7},
		"*:is(list, link)":        {0, 3, 4},
		"*:is(list > item)":       {1, 2, 5},
		"*:is(link, link)":        {3, 4},
		"item:is(link)":           nil,
		"*:has(*)":                {0, 2, 5},
		"*:has(link)":             {0, 2},
		"*:has(list)":             nil,
		"item:has(item)":          {5},
		"*:has(item.a)":           {0},
		"*:has(link#x, *.b)":      {0, 2},
		"*:has(list > item)":      {0},
		"item:has(list link)":     {2},
		"*:has(item > item)":      {0, 5},
		"*:has(item + item)":      {0, 5},
		"*:has(*:has(*))":         {0},
		"*:has(*:root)":           nil,
		"*:not(*:has(*))":         {1, 3, 4, 6, 7},
		"*:not(*:has(link, *.b))": {1, 3, 4, 5, 6, 7},
		"*:is(*:has(link):not(*:root), *:nth(0n+3))": {2, 5},
	})
}

func TestE3Links(t *testing.T) {
	wantSample(t, map[string][]int{
		"item":                     {1, 2, 5, 6, 7},
		"x":                        nil,
		"list item":                {1, 2, 5, 6, 7},
		"list > item":              {1, 2, 5},
		"list link":                {3, 4},
		"list > link":              nil,
		"item item":                {6, 7},
		"* *":                      {1, 2, 3, 4, 5, 6, 7},
		"* > *":                    {1, 2, 3, 4, 5, 6, 7},
		"* * *":                    {3, 4, 6, 7},
		"* > * > *":                {3, 4, 6, 7},
		"* * * *":                  nil,
		"list list":                nil,
		"* + *":                    {2, 4, 5, 7},
		"* ~ *":                    {2, 4, 5, 7},
		"*.b + *":                  {5},
		"item + item":              {2, 5, 7},
		"item.a ~ *":               {2, 5},
		"item[k=\"\"] + *":         {2},
		"item[k=\"\"] ~ *":         {2, 5},
		"* + * + *":                {5},
		"* ~ * ~ *":                {5},
		"* + * ~ *":                {5},
		"* ~ * + *":                {5},
		"* + * + * + *":            nil,
		"link + item":              nil,
		"link ~ item":              nil,
		"list + item":              nil,
		"*.b > link":               {3, 4},
		"*.b > link + link":        {4},
		"*[k=\"\"] + *.b link":     {3, 4},
		"*[k=\"\"] ~ item > item":  {6, 7},
		"*.b + item > * + *":       {7},
		"list > item > link ~ *#x": {4},
		"list link, *.b":           {2, 3, 4},
		"x, *#x":                   {4},
		"*.b, *.b, list":           {0, 2},
		"x, x x":                   nil,
	})
}

// TestE3Back: where a step has several elements to go on from, each of them is tried, not the nearest alone.
func TestE3Back(t *testing.T) {
	// The elements:   0 1 2 3 4 5 6      7 8 9 10  11  12 13 14
	d := readDoc(t, "x(a(b(a(c(b(c))))) a(y b(z)) a.p b b c)")
	for s, want := range map[string][]int{
		"x > a c":           {4, 6},
		"x > a b c":         {4, 6},
		"x > a > b c":       {4, 6},
		"x > a > b > a c":   {4, 6},
		"a > b > c":         nil,
		"c > b > c":         {6},
		"*.p ~ c":           {14},
		"*.p + b ~ c":       {14},
		"*.p + b + c":       nil,
		"*.p ~ b + c":       {14},
		"*.p + * ~ b ~ c":   {14},
		"a ~ a + b ~ b + c": {14},
		"a ~ a ~ a":         {11},
		"a ~ a ~ a ~ a":     nil,
	} {
		wantMatch(t, d, readList(t, s), want)
	}
}

// texts are lists of every kind.
func texts() []string {
	return []string{
		"*", "a", "b.c", "*.c.d", "*#x", "a b", "a > b", "a + b", "a ~ b", "* > * > *", "a *.c + b", "a ~ b ~ a", "a + b + a", "a b a", "a > b ~ *", "* + a *",
		"*[k]", `*[k="v w"]`, `*[k^="v"]`, `*[k$="w"]`, `*[k*=" "]`, `*[k~="v"]`, `*[k~="v w"]`, `*[k^=""]`, `*[k=""]`,
		"*:nth(2n+1)", "*:nth(2n+0)", "*:last(0n+1)", "*:last(2n+0)", "*:nth(-1n+2)", "*:empty", "*:root", "*:root > *:nth(0n+2) ~ *",
		"*:not(*.c)", "*:is(a, b.d)", "*:has(*#x)", "a:has(b > a):not(*:root)", "*:not(*:has(*)), *:root", "*:is(*:is(a), *:not(b))", "a ~ *:not(a + *)", "*:has(a + b) > *:not(*:has(*), *.c)",
	}
}

// TestE3Model holds all small documents against the model.
func TestE3Model(t *testing.T) {
	r := draw(7)
	for n := 1; n <= 6; n++ {
		for _, shape := range shapes(n) {
			d := r.dressed(shape)
			for _, s := range texts() {
				l := readList(t, s)
				wantMatch(t, d, l, found(d, l))
			}
		}
	}
}

// TestE3Drawn holds drawn lists against the model.
func TestE3Drawn(t *testing.T) {
	r := draw(8)
	all := append(shapes(5), shapes(7)...)
	for range 4000 {
		d, l := r.dressed(all[r.n(len(all))]), r.list(1)
		wantMatch(t, d, l, found(d, l))
	}
}

// TestE4Laws: not is the other way round, is the same way, more paths match more, and a list matches what its paths do.
func TestE4Laws(t *testing.T) {
	r := draw(9)
	all := shapes(7)
	for range 1500 {
		d, l, more := r.dressed(all[r.n(len(all))]), r.list(2), r.list(2)
		m, _ := mark.Show(d)
		s, _ := path.Show(l)
		got, _ := match.All(d, l)
		other, _ := match.All(d, more)
		both, err := match.All(d, append(slices.Clone(l[:1]), more...)[:min(5, 1+len(more))])
		first, _ := match.All(d, l[:1])
		for n := range d.Nodes {
			not, _ := match.Test(d, api.Test{Kind: api.Not, List: l}, n)
			is, _ := match.Test(d, api.Test{Kind: api.Is, List: l}, n)
			if in := slices.Contains(got, n); is != in || not == in {
				t.Errorf("E4: %s in %s, %d: %v, Is %v, Not %v", s, m, n, in, is, not)
			}
			if want := slices.Contains(first, n) || slices.Contains(other, n); err != api.OK || slices.Contains(both, n) != want {
				t.Errorf("E4: %s and more in %s, %d: %v, error %d", s, m, n, !want, err)
			}
		}
	}
}

func TestE1(t *testing.T) {
	few, many := readDoc(t, "a(b c)"), api.Doc{Nodes: make([]api.Node, 65)}
	wrong := api.Doc{Nodes: []api.Node{{Up: -1, Tag: "a"}, {Up: 1, Tag: "a"}}}
	docs := []struct {
		d   api.Doc
		err api.Errno
	}{{few, api.OK}, {api.Doc{}, api.ErrMany}, {many, api.ErrMany}, {wrong, api.ErrForm}}
	tests := []struct {
		x   api.Test
		err api.Errno
	}{
		{api.Test{Kind: api.Root}, api.OK},
		{api.Test{Kind: api.Not, List: readList(t, "a")}, api.OK},
		{api.Test{Kind: api.Is, List: readList(t, "a:is(b)")}, api.OK},
		{api.Test{Kind: api.Is, List: readList(t, "a:is(b:is(c))")}, api.ErrMany},
		{api.Test{Kind: api.Not}, api.ErrMany},
		{api.Test{}, api.ErrKind},
		{api.Test{Kind: 16}, api.ErrKind},
		{api.Test{Kind: api.HasClass}, api.ErrForm},
		{api.Test{Kind: api.HasClass, Name: "a", Value: "b"}, api.ErrForm},
		{api.Test{Kind: api.NthKid, Nth: api.Nth{B: 1<<20 + 1}}, api.ErrRange},
	}
	for i, c := range docs {
		for k, e := range tests {
			for _, n := range []int{math.MinInt, -1, 0, 1, 2, 3, 64, math.MaxInt} {
				want := c.err
				if want == api.OK {
					want = e.err
				}
				l := []api.Path{{Steps: []api.Step{{Tests: []api.Test{e.x}}}}}
				if got, err := match.All(c.d, l); err != want || err != api.OK && len(got) != 0 {
					t.Errorf("E1: All, document %d, test %d: %v, error %d; must be %d", i, k, got, err, want)
				}
				if want == api.OK && (n < 0 || n > 2) {
					want = api.ErrNone
				}
				what := fmt.Sprintf("document %d, test %d, element %d", i, k, n)
				if is, err := match.Test(c.d, e.x, n); err != want || err != api.OK && is {
					t.Errorf("E1: Test, %s: %v, error %d; must be %d", what, is, err, want)
				}
				if is, err := match.Matches(c.d, l, n); err != want || err != api.OK && is {
					t.Errorf("E1: Matches, %s: %v, error %d; must be %d", what, is, err, want)
				}
				if up, is, err := match.Nearest(c.d, l, n); err != want || err != api.OK && (is || up != 0) {
					t.Errorf("E1: Nearest, %s: %d, %v, error %d; must be %d", what, up, is, err, want)
				}
			}
		}
	}
	if _, err := match.Matches(few, nil, 9); err != api.ErrMany {
		t.Errorf("E1: Matches of no list: error %d", err)
	}
	if _, _, err := match.Nearest(few, nil, 9); err != api.ErrMany {
		t.Errorf("E1: Nearest of no list: error %d", err)
	}
	if _, err := match.All(few, nil); err != api.ErrMany {
		t.Errorf("E1: All of no list: error %d", err)
	}
}

func TestE4Nearest(t *testing.T) {
	d := readDoc(t, sample)
	for _, c := range []struct {
		s    string
		from int
		want int
	}{
		{"item", 2, 2}, {"item", 3, 2}, {"item", 0, -1}, {"item", 7, 7},
		{"list", 7, 0}, {"list", 0, 0}, {"link", 2, -1}, {"link", 5, -1}, {"*:has(item)", 7, 5}, {"*.a", 7, 0}, {"*.a", 4, 2}, {"*.a", 1, 1}, {"item, list", 6, 6}, {"list, *#x", 4, 4}, {"*:root", 4, 0}, {"x", 4, -1},
	} {
		n, is, err := match.Nearest(d, readList(t, c.s), c.from)
		if err != api.OK || is != (c.want >= 0) || n != max(c.want, 0) {
			t.Errorf("E4: Nearest %s from %d: %d, %v, error %d; must be %d", c.s, c.from, n, is, err, c.want)
		}
	}
}
