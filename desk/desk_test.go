package desk_test

import (
	"fmt"
	"strings"
	"testing"

	"pathfindery/api"
	"pathfindery/desk"
)

// TestExample9 is the document's ninth example.
func TestExample9(t *testing.T) {
	want(t, [2]string{"remove 0", "error 3"}, [2]string{"x", "error 1"})
}

// TestI1Start: in the beginning there is a page with one element.
func TestI1Start(t *testing.T) {
	want(t, [2]string{"show", "page"}, [2]string{"find *", "0"}, [2]string{"find page:root:empty", "0"}, [2]string{"find *.page, *#page, *[page]", "none"}, [2]string{"nearest 0 page", "0"}, [2]string{"nearest 1 page", "error 5"})
}

// TestI1Bounds: how long a script may be, and how it ends.
func TestI1Bounds(t *testing.T) {
	line := strings.Repeat("x", api.MaxText-1)
	for what, c := range map[string]struct {
		s, want string
		err     api.Errno
	}{
		"nothing":                    {"", "", api.OK},
		"an empty line":              {"\n", "error 1\n", api.OK},
		"two empty lines":            {"\n\n", "error 1\nerror 1\n", api.OK},
		"no line feed":               {"show", "", api.ErrForm},
		"no line feed at the end":    {"show\nshow", "", api.ErrForm},
		"another byte at the end":    {"show\n\x00", "", api.ErrForm},
		"a return at the end":        {"show\r", "", api.ErrForm},
		"a blank at the end":         {"show\n ", "", api.ErrForm},
		"all lines":                  {strings.Repeat("show\n", 100), strings.Repeat("page\n", 100), api.OK},
		"a line too many":            {strings.Repeat("show\n", 101), "", api.ErrMany},
		"an empty line too many":     {strings.Repeat("\n", 101), "", api.ErrMany},
		"all empty lines":            {strings.Repeat("\n", 100), strings.Repeat("error 1\n", 100), api.OK},
		"lines too many, no feed":    {strings.Repeat("show\n", 101) + "show", "", api.ErrMany},
		"all bytes":                  {line + "\n", "error 1\n", api.OK},
		"all bytes, more lines":      {"show\n" + line[5:] + "\n", "page\nerror 1\n", api.OK},
		"a byte too many":            {line + "x\n", "", api.ErrMany},
		"a line feed too many":       {line + "\n\n", "", api.ErrMany},
		"all bytes, no feed":         {line + "x", "", api.ErrForm},
		"a byte too many, no feed":   {line + "xx", "", api.ErrMany},
		"very many bytes":            {strings.Repeat("show\n", 1<<16), "", api.ErrMany},
		"all bytes and all lines":    {strings.Repeat("\n", 99) + line[99:] + "\n", strings.Repeat("error 1\n", 100), api.OK},
		"bytes and lines, both over": {strings.Repeat("\n", 100) + line + "\n", "", api.ErrMany},
	} {
		if got, err := desk.Play(c.s); got != c.want || err != c.err {
			t.Errorf("I1: %s: %.60q, error %d; must be %.60q, %d", what, got, err, c.want, c.err)
		}
	}
}

func TestI1Load(t *testing.T) {
	want(t,
		[2]string{"load a", "ok"}, [2]string{"show", "a"}, [2]string{"find page", "none"},
		[2]string{`load list#top(item.a item.b(link[to="one two"]) item.a)`, "ok"},
		[2]string{"show", `list#top(item.a item.b(link[to="one two"]) item.a)`},
		[2]string{"find a", "none"}, [2]string{"find item", "1 2 4"}, [2]string{"find *.a", "1 4"}, [2]string{"find *#top", "0"},
		[2]string{"load page", "ok"}, [2]string{"show", "page"}, [2]string{"find item", "none"},
	)
	for _, s := range []string{"", "A", "a(", "a)", "a()", "a b", " a", "a ", "a  b", "a.b.a", "a.a.a", "9", `a[k="]`, "a(b  c)", "a\r", "a\x00"} {
		want(t, [2]string{"load b", "ok"}, [2]string{"load " + s, "error 1"}, [2]string{"show", "b"})
	}
	row := "a(" + strings.Repeat("b ", 62) + "b)"
	want(t, [2]string{"load " + row, "ok"}, [2]string{"find a > *:last(0n+1)", "63"}, [2]string{"load " + row[:len(row)-1] + " b)", "error 1"}, [2]string{"show", row})
}

func TestI1Insert(t *testing.T) {
	want(t,
		[2]string{"insert 0 0 b", "ok"}, [2]string{"show", "page(b)"},
		[2]string{"insert 0 0 a", "ok"}, [2]string{"show", "page(a b)"},
		[2]string{"insert 0 2 c.x(d)", "ok"}, [2]string{"show", "page(a b c.x(d))"},
		[2]string{"insert 0 1 e(f g)", "ok"}, [2]string{"show", "page(a e(f g) b c.x(d))"},
		[2]string{"find *.x", "6"}, [2]string{"find d", "7"}, [2]string{"find e > *", "3 4"},
		[2]string{"insert 7 0 h.x", "ok"}, [2]string{"show", "page(a e(f g) b c.x(d(h.x)))"}, [2]string{"find *.x", "6 8"},
	)
	wantEach(t, "a(b c)", map[string]string{
		"insert 0 3 x": "error 3", "insert 1 1 x": "error 3", "insert 0 999999 x": "error 3", "insert 3 0 x": "error 5", "insert 999999 999999 x": "error 5",
		"insert": "error 1", "insert ": "error 1", "insert 0": "error 1", "insert 0 ": "error 1", "insert 0 0": "error 1", "insert 0 0 ": "error 1", "insert 0 x": "error 1", "insert x": "error 1",
		"insert 0 0 A": "error 1", "insert 0 0 x y": "error 1", "insert 0 0 x(": "error 1", "insert 0 0  x": "error 1", "insert 0 0 x ": "error 1", "insert  0 0 x": "error 1", "insert 0  0 x": "error 1",
		"insert x 0 a": "error 1", "insert 0 x a": "error 1", "insert -1 0 a": "error 1", "insert 0 -1 a": "error 1", "insert 00 0 a": "error 1", "insert 0 00 a": "error 1", "insert 0 1000000 a": "error 1", "insert 1000000 0 a": "error 1",
		"insert 9 0 A": "error 1", "insert 9 9 ": "error 1", "insert 0 9 x(": "error 1",
	})
	row := strings.Repeat("b ", 62) + "b"
	want(t, [2]string{"insert 0 0 a(" + row[2:] + ")", "ok"}, [2]string{"insert 1 0 x(y)", "error 2"}, [2]string{"insert 0 0 x", "error 2"}, [2]string{"insert 0 2 x", "error 3"}, [2]string{"insert 64 0 x", "error 5"}, [2]string{"remove 63", "ok"}, [2]string{"insert 1 0 x", "ok"}, [2]string{"find x", "2"})
}

func TestI1Remove(t *testing.T) {
	want(t,
		[2]string{"load a(b.x(c d.x) e.x)", "ok"}, [2]string{"find *.x", "1 3 4"},
		[2]string{"remove 2", "ok"}, [2]string{"show", "a(b.x(d.x) e.x)"}, [2]string{"find *.x", "1 2 3"}, [2]string{"find c", "none"},
		[2]string{"remove 3", "ok"}, [2]string{"show", "a(b.x(d.x))"},
		[2]string{"remove 1", "ok"}, [2]string{"show", "a"}, [2]string{"find *.x", "none"},
		[2]string{"remove 1", "error 5"}, [2]string{"remove 0", "error 3"}, [2]string{"show", "a"},
	)
	wantEach(t, "a(b c)", map[string]string{
		"remove 3": "error 5", "remove 999999": "error 5", "remove 0": "error 3",
		"remove": "error 1", "remove ": "error 1", "remove 1 ": "error 1", "remove  1": "error 1", "remove 1 1": "error 1", "remove 01": "error 1", "remove 00": "error 1", "remove +1": "error 1", "remove -1": "error 1", "remove -0": "error 1",
		"remove 1000000": "error 1", "remove 1.": "error 1", "remove 1x": "error 1", "remove x": "error 1", "remove 0x1": "error 1", "remove 1\r": "error 1", "remove 99999999999999999999999999": "error 1", "remove 18446744073709551617": "error 1",
	})
}

func TestI1Class(t *testing.T) {
	want(t,
		[2]string{"load a(b.m)", "ok"},
		[2]string{"class 1 z", "ok"}, [2]string{"show", "a(b.m.z)"}, [2]string{"class 1 a", "ok"}, [2]string{"show", "a(b.a.m.z)"},
		[2]string{"class 1 n", "ok"}, [2]string{"class 1 m-", "ok"}, [2]string{"class 1 m0", "ok"}, [2]string{"show", "a(b.a.m.m-.m0.n.z)"}, [2]string{"find *.n", "1"},
		[2]string{"class 1 q", "error 1"}, [2]string{"show", "a(b.a.m.m-.m0.n.z)"},
		[2]string{"class 1 m", "ok"}, [2]string{"show", "a(b.a.m-.m0.n.z)"}, [2]string{"find *.m", "none"},
		[2]string{"class 1 q", "ok"}, [2]string{"show", "a(b.a.m-.m0.n.q.z)"},
		[2]string{"class 1 a", "ok"}, [2]string{"class 1 z", "ok"}, [2]string{"show", "a(b.m-.m0.n.q)"},
		[2]string{"class 0 n", "ok"}, [2]string{"find *.n", "0 1"}, [2]string{"class 0 n", "ok"}, [2]string{"find *.n", "1"},
		[2]string{"show", "a(b.m-.m0.n.q)"},
	)
	// What else the element has stays.
	want(t, [2]string{`load a(b#x.k[j="v"][k="w"](c) d)`, "ok"}, [2]string{"class 1 abcdefghijkl", "ok"}, [2]string{"show", `a(b#x.abcdefghijkl.k[j="v"][k="w"](c) d)`}, [2]string{"class 1 k", "ok"}, [2]string{"show", `a(b#x.abcdefghijkl[j="v"][k="w"](c) d)`})
	wantEach(t, "a(b c.x)", map[string]string{
		"class 3 x": "error 5", "class 999999 x": "error 5", "class 3 A": "error 5", "class 9 abcdefghijklm": "error 5",
		"class": "error 1", "class ": "error 1", "class 0": "error 1", "class 0 ": "error 1", "class 3": "error 1", "class 3 ": "error 1", "class x": "error 1", "class x 0": "error 1",
		"class 0 A": "error 1", "class 0 9": "error 1", "class 0 -": "error 1", "class 0 abcdefghijklm": "error 1", "class 0 .x": "error 1", "class 0 x.y": "error 1",
		"class 0 x ": "error 1", "class 0 x y": "error 1", "class 2 x ": "error 1", "class 2 x y": "error 1", "class 0  x": "error 1", "class  0 x": "error 1",
		"class 00 x": "error 1", "class 01 x": "error 1", "class -1 x": "error 1", "class 1000000 x": "error 1",
	})
}

func TestI1Find(t *testing.T) {
	wantEach(t, `list#top(item.a item.b(link[to="one two"]) item.a)`, map[string]string{
		"find *": "0 1 2 3 4", "find item": "1 2 4", "find link": "3", "find *#top": "0", "find x": "none", "find *.x, *#y": "none", "find x, link, *.b": "2 3", "find list > *.a + *": "2",
		`find item:not(*:last(0n+1)) + *:has(*[to~="two"])`: "2", `find *[to="one two"]`: "3", "find *:not(*:not(item))": "1 2 4",
		"find": "error 1", "find ": "error 1", "find  item": "error 1", "find item ": "error 1", "find a,b": "error 1", "find A": "error 1", "find item >": "error 1", "find .a": "error 1", "find *:not(*:not(*:not(*:not(a))))": "error 1",
	})
	row := "a(" + strings.Repeat("b ", 62) + "b)"
	all := strings.Trim(fmt.Sprint(numbers(1, 63)), "[]")
	want(t, [2]string{"load " + row, "ok"}, [2]string{"find b", all})
}

func numbers(from, to int) []int {
	var all []int
	for n := from; n <= to; n++ {
		all = append(all, n)
	}
	return all
}

func TestI1Nearest(t *testing.T) {
	wantEach(t, `list#top(item.a item.b(link[to="one two"]) item.a)`, map[string]string{
		"nearest 3 list": "0", "nearest 3 item": "2", "nearest 3 link": "3", "nearest 3 *": "3", "nearest 3 *.a": "none", "nearest 4 *.a": "4", "nearest 0 *": "0", "nearest 0 item": "none", "nearest 1 *.b, list": "0", "nearest 3 *:has(*)": "2", "nearest 3 x": "none",
		"nearest 5 list": "error 5", "nearest 999999 x": "error 5",
		"nearest": "error 1", "nearest ": "error 1", "nearest 0": "error 1", "nearest 0 ": "error 1", "nearest 9": "error 1", "nearest 9 ": "error 1", "nearest 9 A": "error 1", "nearest 9 a,b": "error 1", "nearest a 0": "error 1", "nearest 0  a": "error 1", "nearest  0 a": "error 1", "nearest 0 a ": "error 1",
		"nearest 00 *": "error 1", "nearest 01 *": "error 1", "nearest -1 *": "error 1", "nearest 1000000 *": "error 1", "nearest *": "error 1", "nearest list": "error 1",
	})
}

func TestI1Plain(t *testing.T) {
	wantEach(t, "a", map[string]string{
		"plain *:is(a)": "a", "plain *:not(*:not(x:empty))": "x:empty", "plain a, a": "a", "plain a > b": "a > b", "plain a.p.q.r:is(*.s.t.u.v)": "a.p.q.r:is(*.s.t.u.v)", "plain *:not(*:not(*.a.a)), *.a, b": "*.a, b",
		"plain": "error 1", "plain ": "error 1", "plain a,b": "error 1", "plain  a": "error 1", "plain a ": "error 1", "plain A": "error 1", "plain a >": "error 1",
	})
}

// TestI1None: lines that are none of those.
func TestI1None(t *testing.T) {
	rows := map[string]string{}
	for _, line := range []string{"", " ", "x", "show ", " show", "shows", "sho", "Show", "SHOW", "show show", "show 0", "show\r", "show\x00", "loada", "load\ta", "remove1", "findx", "ok", "none", "error 1", "put 0 a", "add", "help", "0", "page", "#", "\x00", "\xff\xfe", "load\x00a", "Load a", "insert0 0 a", "nearest0 a", "class0 a", "plaina", " load a", " find a"} {
		rows[line] = "error 1"
	}
	wantEach(t, "a(b c)", rows)
}

// TestI1Kept: with an error nothing has changed, of the document and of what is found.
func TestI1Kept(t *testing.T) {
	for _, line := range []string{"load a(", "load", "load A", "insert 0 9 x", "insert 9 0 x", "insert 0 0 X", "insert 0 0 b b", "remove 0", "remove 9", "remove 01", "class 0 A", "class 9 a", "class 0", "find A", "nearest 9 a", "plain A", "x", "", "show "} {
		got := play(t, "load a.x(b.x c#y)", line, "show", "find *.x", "find *#y", "find *", line, "show")
		if !strings.HasPrefix(got[1], "error ") || strings.Join(got[2:6], ", ") != "a.x(b.x c#y), 0 1, 2, 0 1 2" || got[6] != got[1] || got[7] != got[2] {
			t.Errorf("I1: %q: %q", line, got)
		}
	}
}

// TestI1Asked: what asks only changes nothing.
func TestI1Asked(t *testing.T) {
	for _, line := range []string{"show", "find *.x", "nearest 1 *.x", "plain *:not(*:not(a))"} {
		got := play(t, "load a.x(b.x c#y)", line, "show", "find *", line)
		if got[2] != "a.x(b.x c#y)" || got[3] != "0 1 2" || got[1] != got[4] {
			t.Errorf("I1: %q: %q", line, got)
		}
	}
}

// TestI1Drawn: long scripts give what the table says.
func TestI1Drawn(t *testing.T) {
	for i := range 150 {
		r := draw(60 + i)
		m := newModel()
		var rows [][2]string
		for range 100 {
			line := r.line(len(m.d.Nodes))
			rows = append(rows, [2]string{line, m.line(line)})
		}
		want(t, rows...)
		if t.Failed() {
			t.Fatalf("the lines are %q", rows)
		}
	}
}

// TestI1EveryByte: a byte changed, left out or put in makes of each line what the table says of it.
func TestI1EveryByte(t *testing.T) {
	const page = "load a.x(b c(d))"
	for _, line := range []string{"load a(b)", "insert 0 12 a", "remove 10", "remove 2", "class 1 x", "find a b", "nearest 3 a", "plain a:is(*)", "show"} {
		var others []string
		for i := range len(line) + 1 {
			for _, b := range []string{"", " ", "0", "9", "a", "X", "*", "-", "(", "\x00", "\t", "\r", "\xff"} {
				others = append(others, line[:i]+b+line[i:])
				if i < len(line) {
					others = append(others, line[:i]+b+line[i+1:])
				}
			}
		}
		for _, other := range others {
			m := newModel()
			m.line(page)
			given, after := m.line(other), m.line("show")
			if got := play(t, page, other, "show"); got[1] != given || got[2] != after {
				t.Errorf("I1: %q: %q; must be %q, %q", other, got[1:], given, after)
			}
		}
	}
}

// TestI2: each line gives one line, and each one stands for itself.
func TestI2(t *testing.T) {
	got, err := desk.Play("load a(b)\nx\nshow\nfind *\nfind x\nremove 0\nremove 1\n\nshow\n")
	if must := "ok\nerror 1\na(b)\n0 1\nnone\nerror 3\nok\nerror 1\na\n"; got != must || err != api.OK {
		t.Errorf("I2: %q, error %d; must be %q", got, err, must)
	}
	r := draw(59)
	for n := range 101 {
		var lines []string
		for range n {
			lines = append(lines, r.line(4))
		}
		all := play(t, lines...)
		for k := 0; k < n; k += 9 {
			if part := play(t, lines[:k]...); strings.Join(part, "\n") != strings.Join(all[:k], "\n") {
				t.Fatalf("I2: %q: the first %d lines give %q, and alone %q", lines, k, all[:k], part)
			}
		}
	}
}
