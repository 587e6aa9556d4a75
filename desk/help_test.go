package desk_test

import (
	"fmt"
	"regexp"
	"slices"
	"strconv"
	"strings"
	"testing"

	"pathfindery/api"
	"pathfindery/desk"
	"pathfindery/doc"
	"pathfindery/mark"
	"pathfindery/match"
	"pathfindery/path"
	"pathfindery/plain"
)

// script is lines, with a line feed behind each.
func script(lines ...string) string {
	s := ""
	for _, line := range lines {
		s += line + "\n"
	}
	return s
}

// play runs lines, and tells what each gives.
func play(t *testing.T, lines ...string) []string {
	t.Helper()
	got, err := desk.Play(script(lines...))
	if err != api.OK {
		t.Fatalf("I1: %q: error %d", lines, err)
	}
	if len(lines) == 0 && got == "" {
		return nil
	}
	given := strings.SplitAfter(got, "\n")
	if last := given[len(given)-1]; last != "" || len(given) != len(lines)+1 {
		t.Fatalf("I2: %q: %q; there must be %d lines, with a line feed behind each", lines, got, len(lines))
	}
	for i := range lines {
		given[i] = strings.TrimSuffix(given[i], "\n")
	}
	return given[:len(lines)]
}

// want plays lines one of which stands behind another, with what each must give.
func want(t *testing.T, rows ...[2]string) {
	t.Helper()
	var lines []string
	for _, row := range rows {
		lines = append(lines, row[0])
	}
	for i, got := range play(t, lines...) {
		if got != rows[i][1] {
			t.Errorf("I1: line %d, %q, gives %q; must be %q", i, rows[i][0], got, rows[i][1])
		}
	}
}

// wantEach plays each line on the page of a document.
func wantEach(t *testing.T, text string, rows map[string]string) {
	t.Helper()
	for line, must := range rows {
		if got := play(t, "load "+text, line); got[0] != "ok" || got[1] != must {
			t.Errorf("I1: on %s, %q gives %q; must be %q", text, line, got, must)
		}
	}
}

// The model: the chapter's table, on a document without an index.

type model struct{ d api.Doc }

func newModel() *model { return &model{api.Doc{Nodes: []api.Node{{Up: -1, Tag: "page"}}}} }

const num = "(0|[1-9][0-9]{0,5})"

var (
	loads    = regexp.MustCompile(`(?s)^load (.*)$`)
	inserts  = regexp.MustCompile(`(?s)^insert ` + num + ` ` + num + ` (.*)$`)
	removes  = regexp.MustCompile(`(?s)^remove ` + num + `$`)
	classes  = regexp.MustCompile(`(?s)^class ` + num + ` ([^ ]+)$`)
	finds    = regexp.MustCompile(`(?s)^find (.*)$`)
	nearests = regexp.MustCompile(`(?s)^nearest ` + num + ` (.*)$`)
	plains   = regexp.MustCompile(`(?s)^plain (.*)$`)
)

func (m *model) line(s string) string {
	given, err := m.try(s)
	if err != api.OK {
		return fmt.Sprint("error ", int(err))
	}
	return given
}

func (m *model) try(s string) (string, api.Errno) {
	n := func(s string) int { i, _ := strconv.Atoi(s); return i }
	if w := loads.FindStringSubmatch(s); w != nil {
		return m.turn(mark.Read(w[1]))
	}
	if w := inserts.FindStringSubmatch(s); w != nil {
		e, err := mark.Read(w[3])
		if err != api.OK {
			return "", err
		}
		return m.turn(doc.Insert(m.d, n(w[1]), n(w[2]), e))
	}
	if w := removes.FindStringSubmatch(s); w != nil {
		return m.turn(doc.Remove(m.d, n(w[1])))
	}
	if w := classes.FindStringSubmatch(s); w != nil {
		return m.class(n(w[1]), w[2])
	}
	if w := finds.FindStringSubmatch(s); w != nil {
		return m.find(w[1])
	}
	if w := nearests.FindStringSubmatch(s); w != nil {
		return m.nearest(n(w[1]), w[2])
	}
	if w := plains.FindStringSubmatch(s); w != nil {
		l, err := path.Read(w[1])
		if err != api.OK {
			return "", err
		}
		l, _ = plain.Plain(l)
		return path.Show(l)
	}
	if s == "show" {
		return mark.Show(m.d)
	}
	return "", api.ErrForm
}

func (m *model) turn(d api.Doc, err api.Errno) (string, api.Errno) {
	if err == api.OK {
		m.d = d
	}
	return "ok", err
}

func (m *model) class(n int, name string) (string, api.Errno) {
	if n >= len(m.d.Nodes) {
		return "", api.ErrNone
	}
	x := m.d.Nodes[n]
	had := slices.Contains(x.Classes, name)
	x.Classes = slices.DeleteFunc(slices.Clone(x.Classes), func(c string) bool { return c == name })
	if !had {
		x.Classes = append(x.Classes, name)
		slices.Sort(x.Classes)
	}
	return m.turn(doc.Put(m.d, n, x))
}

func (m *model) find(s string) (string, api.Errno) {
	l, err := path.Read(s)
	if err != api.OK {
		return "", err
	}
	all, err := match.All(m.d, l)
	if len(all) == 0 {
		return "none", err
	}
	return strings.Trim(fmt.Sprint(all), "[]"), err
}

func (m *model) nearest(n int, s string) (string, api.Errno) {
	l, err := path.Read(s)
	if err != api.OK {
		return "", err
	}
	up, is, err := match.Nearest(m.d, l, n)
	if !is {
		return "none", err
	}
	return fmt.Sprint(up), err
}

// draw gives numbers for long tests; the same each time.
type draw uint64

func (r *draw) n(n int) int {
	*r = *r*6364136223846793005 + 1442695040888963407
	return int(uint64(*r) >> 33 % uint64(n))
}

// line draws a line, most often one that is right, for a page of about so many elements.
func (r *draw) line(many int) string {
	texts := []string{"a", "b.c", "a#x(b c.d)", `a.c(b[k="v w"](c) a)`, "b(a(a(a)))", "", "a(", "A"}
	lists := []string{"*", "a", "*.c", "a > *", "a b, *.d", `*[k~="w"]`, "*:not(a)", "*:not(*:not(b.c))", "*:is(a.c.c), a.c", "*:has(c):empty", "*:last(0n+1)", "x", "a,b", ""}
	n := func() string { return strconv.Itoa(r.n(many + 2)) }
	text, list := texts[r.n(len(texts))], lists[r.n(len(lists))]
	switch r.n(11) {
	case 0:
		return "load " + text
	case 1, 2, 3:
		return "insert " + n() + " " + strconv.Itoa(r.n(3)) + " " + text
	case 4:
		return "remove " + n()
	case 5, 6:
		return "class " + n() + " " + []string{"a", "c", "d", "zz", "C", "9"}[r.n(6)]
	case 7:
		return "find " + list
	case 8:
		return "nearest " + n() + " " + list
	case 9:
		return "plain " + list
	}
	return "show"
}
