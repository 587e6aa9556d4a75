package path_test

import (
	"fmt"
	"strings"
	"testing"

	"pathfindery/api"
	"pathfindery/path"
)

func wantBoth(t *testing.T, l []api.Path, text string) {
	t.Helper()
	if s, err := path.Show(l); s != text || err != api.OK {
		t.Errorf("D2: Show %v: %q, error %d; must be %q", l, s, err, text)
	}
	if x, err := path.Read(text); !same(x, l) || err != api.OK {
		t.Errorf("D2: Read %q: %v, error %d; must be %v", text, x, err, l)
	}
}

func wantRefused(t *testing.T, s string) {
	t.Helper()
	if l, err := path.Read(s); err != api.ErrForm || len(l) != 0 {
		t.Errorf("D2: Read %.80q: %d paths, error %d; must be refused", s, len(l), err)
	}
}

// TestExample3 reads the path of the document's third example, and weighs it as the fourth.
func TestExample3(t *testing.T) {
	const s = `item:not(*:last(0n+1)) + *:has(*[to~="two"])`
	last := api.Test{Kind: api.NthLast, Nth: api.Nth{B: 1}}
	to := api.Test{Kind: api.AttrWord, Name: "to", Value: "two"}
	l := []api.Path{{
		Steps: []api.Step{{Tag: "item", Tests: []api.Test{not(one("", last))}}, {Tests: []api.Test{{Kind: api.Has, List: one("", to)}}}},
		Links: []int{api.Next},
	}}
	wantBoth(t, l, s)
	if w, err := path.Weigh(l[0]); w != (api.Weight{Tests: 2, Tags: 1}) || err != api.OK {
		t.Errorf("example 4: %v, error %d", w, err)
	}
}

func TestD2Tests(t *testing.T) {
	for text, x := range map[string]api.Test{
		".a":                {Kind: api.HasClass, Name: "a"},
		"#b-1":              {Kind: api.HasId, Name: "b-1"},
		"[k]":               {Kind: api.HasAttr, Name: "k"},
		`[k="v"]`:           {Kind: api.AttrIs, Name: "k", Value: "v"},
		`[k=""]`:            {Kind: api.AttrIs, Name: "k"},
		`[k^="v w"]`:        {Kind: api.AttrBegins, Name: "k", Value: "v w"},
		`[k$="]"]`:          {Kind: api.AttrEnds, Name: "k", Value: "]"},
		`[k*=" > * ~"]`:     {Kind: api.AttrHolds, Name: "k", Value: " > * ~"},
		`[k~=":not(a), b"]`: {Kind: api.AttrWord, Name: "k", Value: ":not(a), b"},
		":nth(2n+1)":        {Kind: api.NthKid, Nth: api.Nth{A: 2, B: 1}},
		":nth(0n+0)":        {Kind: api.NthKid},
		":last(-1n-3)":      {Kind: api.NthLast, Nth: api.Nth{A: -1, B: -3}},
		":empty":            {Kind: api.Empty},
		":root":             {Kind: api.Root},
		":not(a)":           {Kind: api.Not, List: one("a")},
		":is(*, b)":         {Kind: api.Is, List: append(one(""), one("b")...)},
		":has(a.b)":         {Kind: api.Has, List: one("a", class("b"))},
	} {
		wantBoth(t, one("", x), "*"+text)
		wantBoth(t, one("a", x), "a"+text)
		wantBoth(t, one("a", x, x), "a"+text+text)
		wantBoth(t, one("a", not(one("", x, class("b")))), "a:not(*"+text+".b)")
	}
}

func TestD2Links(t *testing.T) {
	steps := []api.Step{{Tag: "a"}, {}, {Tag: "c", Tests: []api.Test{class("d")}}, {}, {Tag: "e"}}
	wantBoth(t, []api.Path{{Steps: steps, Links: []int{api.Below, api.Kid, api.Next, api.Later}}}, "a * > c.d + * ~ e")
	wantBoth(t, []api.Path{{Steps: steps[:3], Links: []int{api.Later, api.Below}}, {Steps: steps[:1]}, {Steps: steps[1:3], Links: []int{api.Kid}}}, "a ~ * c.d, a, * > c.d")
	wantBoth(t, append(one(""), one("")...), "*, *")
}

func TestD2Bounds(t *testing.T) {
	name, value := strings.Repeat("n", 12), strings.Repeat("V", 16)
	for _, form := range []string{"%s", "a.%s", "a#%s", "a[%s]", `a[%s="v"]`, `a[%s~=""]`, "a %s", "a, %s", "a:not(%s)"} {
		wantShown(t, fmt.Sprintf(form, name))
		wantRefused(t, fmt.Sprintf(form, name+"n"))
		wantRefused(t, fmt.Sprintf(form, ""))
	}
	for _, sign := range []string{"=", "^=", "$=", "*=", "~="} {
		wantShown(t, `a[k`+sign+`"`+value+`"]`)
		wantRefused(t, `a[k`+sign+`"`+value+`V"]`)
	}
	for _, form := range []string{"%s", "a:is(%s)", "a:not(b:has(%s))"} {
		wantShown(t, fmt.Sprintf(form, "a"+strings.Repeat(", a", 4)))
		wantRefused(t, fmt.Sprintf(form, "a"+strings.Repeat(", a", 5)))
		wantShown(t, fmt.Sprintf(form, "a"+strings.Repeat(" ~ a", 4)))
		wantRefused(t, fmt.Sprintf(form, "a"+strings.Repeat(" ~ a", 5)))
		wantShown(t, fmt.Sprintf(form, "a"+strings.Repeat("[k]", 6)))
		wantRefused(t, fmt.Sprintf(form, "a"+strings.Repeat("[k]", 7)))
	}
	for _, kind := range []int{api.Not, api.Is, api.Has} {
		wantBoth(t, nested(3, kind), shown(nested(3, kind)))
		wantRefused(t, shown(nested(4, kind)))
		wantRefused(t, shown(nested(50, kind)))
	}
	wantShown(t, "a:nth(1048576n-1048576)")
	wantRefused(t, "a:nth(1048577n+0)")
	wantRefused(t, "a:last(0n-1048577)")
}

// wantShown: the text is read, and shown so again.
func wantShown(t *testing.T, s string) {
	t.Helper()
	l, err := path.Read(s)
	again, wrong := path.Show(l)
	if err != api.OK || wrong != api.OK || again != s || shown(l) != s {
		t.Errorf("D2: Read %q: error %d; shown %q, error %d", s, err, again, wrong)
	}
}

func TestD2Refused(t *testing.T) {
	for _, s := range []string{
		"", " ", "*a", "a*", "**", "a ", " a", "a  b", "a,b", "a,", "a, ", ", a", "a ,b", "a,  b", "a , b", ",", "a\n", "a, b,", "a, , b",
		"a>b", "a> b", "a >b", "a >  b", "a  > b", "> a", "a >", "a > ", "a > > b", "a + + b", "a +b", "a ~~ b", "a ~ ", "a | b", "a || b", "a > , b",
		"A", "1", "-a", "a_b", "é", "a\x00", "\xff", ".a", "#a", "[k]", ":empty", ":not(a)",
		"a.", "a..b", "a.B", "a#", "a##b", "a. b", "a.*", "*.b c.",
		"a[", "a[]", "a[k", "a[k]]", "a[k]b", "a[ k]", "a[k ]", "a[K]", "a[k=]", "a[k=v]", "a[k='v']", `a[k="v]`, `a[k=v"]`, `a[k="v"`, `a[k="v" ]`, `a[k ="v"]`, `a[k= "v"]`, `a[="v"]`, `a[k=="v"]`, `a[k!="v"]`, `a[k|="v"]`, `a[k^"v"]`, `a[k^ ="v"]`, `a[k^=v]`, `a[k^]`, `a[^="v"]`, `a[k~^="v"]`, `a[k="""]`, "a[k=\"\n\"]", "a[k=\"\x80\"]",
		"a:", "a:a", "a:Empty", "a:emptyx", "a:empty()", "a:rootx", "a:root ", "a::root", "a: root", "a:roo", "a:not", "a:nota", "a:not ()", "a:not()", "a:not( )", "a:not(b", "a:not(b))", "a:not( b)", "a:not(b )", "a:not(b,c)", "a:not(b, )", "a:not(:empty)", "a:not(> b)", "a:has(> b)", "a:is(b)c", "a:is(b)*", "a:is(b) , c", "a:has((b))", "(a)",
		"a:nth", "a:nth()", "a:nth(2)", "a:nth(2n)", "a:nth(n+1)", "a:nth(2n+1", "a:nth(2n+1))", "a:nth( 2n+1)", "a:nth(2n+1 )", "a:nth(02n+1)", "a:nth(2n-0)", "a:nth(-0n+1)", "a:nth(odd)", "a:nth(2n+1, a)", "a:nth((2n+1))", "a:nth(a)", "a:not(2n+1)", "a:last(+1n+1)", "a:nth-last(2n+1)", "a:nth(2n+1)n",
	} {
		wantRefused(t, s)
	}
}

// TestD2Long: long texts are refused too.
func TestD2Long(t *testing.T) {
	const many = 1 << 18
	for _, s := range []string{"a", "a ", "a, ", "*", " ", ".a", "a.", "[k]", "a[", `[k="v"]`, `"`, ":empty", ":not(a", "a:not(", ":not(", "(", ")", ":nth(", "1", ":nth(1n+1)", ":nth(1", " > ", " > a", "a~"} {
		for _, head := range []string{"", "a", "a:is(", `a[k="`, "a:nth(", "a, "} {
			wantRefused(t, head+strings.Repeat(s, many))
		}
	}
}

func TestD3(t *testing.T) {
	for s, want := range map[string]api.Weight{
		"*":                                 {},
		"* > * + *":                         {},
		"a":                                 {Tags: 1},
		"a > b ~ * c":                       {Tags: 3},
		"*#a":                               {Ids: 1},
		"a#a#b b#a":                         {Ids: 3, Tags: 2},
		"*.a":                               {Tests: 1},
		"a.b.b.b":                           {Tests: 3, Tags: 1},
		`*[a][a="b"][a^="b"]`:               {Tests: 3},
		`*[a$="b"][a*="b"][a~="b"]`:         {Tests: 3},
		"*:nth(1n+0):last(1n+0)":            {Tests: 2},
		"*:empty:root":                      {Tests: 2},
		"*:not(*)":                          {},
		"*:not(a)":                          {Tags: 1},
		"*:is(a)":                           {Tags: 1},
		"*:has(a)":                          {Tags: 1},
		"*:not(a#b.c)":                      {Ids: 1, Tests: 1, Tags: 1},
		"*:is(a, b, c)":                     {Tags: 1},
		"*:is(a.b.c.d d d d d, *#a)":        {Ids: 1},
		"*:is(*#a, a.b.c.d d d d d)":        {Ids: 1},
		"*:has(a b c d e, *.a)":             {Tests: 1},
		"*:has(*.a, a b c d e)":             {Tests: 1},
		"*:not(*.a, a.b, *.a)":              {Tests: 1, Tags: 1},
		"*:not(a.b, *.a)":                   {Tests: 1, Tags: 1},
		"*:is(*#a.b, *#a.b.c, a#a b c d)":   {Ids: 1, Tests: 2},
		"*:is(*#a.b, a#a.b, a#a b c d)":     {Ids: 1, Tests: 1, Tags: 1},
		"*:is(*#a#b, *#a.b, a#a b c d)":     {Ids: 2},
		"a:is(*#a):is(*.b):is(c)":           {Ids: 1, Tests: 1, Tags: 2},
		"a:is(*#a, *#b#c) b:not(*#d)#e":     {Ids: 4, Tags: 2},
		"a:not(b:is(c#d:root, *#e#f):root)": {Ids: 2, Tests: 1, Tags: 2},
		"*:is(a:is(*, *#a), b:has(*.b.b))":  {Ids: 1, Tags: 1},
	} {
		l, err := path.Read(s)
		if err != api.OK || len(l) != 1 {
			t.Errorf("D3: %q is not read: error %d", s, err)
			continue
		}
		if w, err := path.Weigh(l[0]); w != want || err != api.OK {
			t.Errorf("D3: Weigh %q: %v, error %d; must be %v", s, w, err, want)
		}
	}
}

// weight is the weight of a path as numbers in order, told by other means.
func weight(p api.Path) [3]int {
	var all [3]int
	for _, s := range p.Steps {
		if s.Tag != "" {
			all[2]++
		}
		for _, x := range s.Tests {
			var most [3]int
			switch {
			case x.Kind == api.HasId:
				most[0] = 1
			case x.Kind < api.Not:
				most[1] = 1
			}
			for _, p := range x.List {
				// Numbers of a path stay below 1000, so that they can be read as one.
				if w := weight(p); w[0]*1000000+w[1]*1000+w[2] > most[0]*1000000+most[1]*1000+most[2] {
					most = w
				}
			}
			all = [3]int{all[0] + most[0], all[1] + most[1], all[2] + most[2]}
		}
	}
	return all
}

// TestD3Drawn and TestD4Drawn go through many right lists.
func TestD3Drawn(t *testing.T) {
	r := draw(3)
	for range 3000 {
		for _, p := range r.list(1) {
			want := weight(p)
			if w, err := path.Weigh(p); [3]int{w.Ids, w.Tests, w.Tags} != want || err != api.OK {
				t.Fatalf("D3: Weigh %s: %v, error %d; must be %v", shown([]api.Path{p}), w, err, want)
			}
		}
	}
}

func TestD4Drawn(t *testing.T) {
	r := draw(4)
	for range 3000 {
		l := r.list(1)
		if err := path.Check(l); err != api.OK {
			t.Fatalf("D1: Check %v: error %d", l, err)
		}
		wantBoth(t, l, shown(l))
	}
}

// wantExact: whatever is read is a right list, and shown so.
func wantExact(t *testing.T, s string) {
	t.Helper()
	l, err := path.Read(s)
	switch {
	case err == api.ErrForm && len(l) == 0:
	case err != api.OK || path.Check(l) != api.OK:
		t.Errorf("D4: Read %q: %v, error %d", s, l, err)
	case shown(l) != s:
		t.Errorf("D4: Read %q: %v, which is shown %q", s, l, shown(l))
	}
}

// TestD4Short reads all short texts of a few pieces.
func TestD4Short(t *testing.T) {
	pieces := []string{"a", "*", " ", ",", ">", ".", "#", "[", "]", "=", `"`, ":is(", ")", ":nth(", "1n+1", ":root"}
	var read func(s string, more int)
	read = func(s string, more int) {
		wantExact(t, s)
		for _, p := range pieces {
			if more > 0 {
				read(s+p, more-1)
			}
		}
	}
	read("", 5)
}

// TestD4EveryByte puts every byte at every place of a text, and takes each away.
func TestD4EveryByte(t *testing.T) {
	const s = `a#b.c > *[d][e="f g"][h^=""] + i:nth(-2n+1):not(j ~ k:has(*), l:empty) m:root[n~="o"], p:last(0n-3)`
	wantShown(t, s)
	for i := range len(s) {
		wantExact(t, s[:i])
		wantExact(t, s[i:])
		wantExact(t, s[:i]+s[i+1:])
		for b := range 256 {
			c := string([]byte{byte(b)})
			wantExact(t, s[:i]+c+s[i:])
			wantExact(t, s[:i]+c+s[i+1:])
		}
	}
}
