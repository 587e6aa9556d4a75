package desk_test

import (
	"regexp"
	"strings"
	"testing"

	"pathfindery/api"
	"pathfindery/desk"
)

// given is what a line can give.
var given = regexp.MustCompile("^(ok|none|error [1-5]|[0-9]+( [0-9]+)*|[*a-z].*)$")

// TestP1: no text makes it panic; with an error nothing else comes; else there is a line for each line.
func TestP1(t *testing.T) {
	r := draw(70)
	pieces := []string{"load ", "insert ", "remove ", "class ", "find ", "nearest ", "plain ", "show", "\n", "\n", "\n", " ", "0", "1", "999999", "a", "b.c", "(", ")", "*", ":not(", ":is(", ", ", "[k=\"", "\"]", "\x00", "\xff", "\r", "-", "2n+1"}
	for range 5000 {
		s := ""
		for range r.n(40) {
			s += pieces[r.n(len(pieces))]
		}
		if r.n(4) > 0 {
			s += "\n"
		}
		got, err := desk.Play(s)
		if err != api.OK {
			if got != "" || s == "" || strings.HasSuffix(s, "\n") {
				t.Errorf("P1: %q: %q, error %d", s, got, err)
			}
			continue
		}
		if strings.Count(got, "\n") != strings.Count(s, "\n") || got != "" && !strings.HasSuffix(got, "\n") {
			t.Errorf("P1: %q: %q has not a line for each line", s, got)
		}
		for line := range strings.Lines(got) {
			if !given.MatchString(strings.TrimSuffix(line, "\n")) {
				t.Errorf("P1: %q: the line %q", s, line)
			}
		}
	}
}

// TestP1Long: texts that go deep, and rows of digits, end like others.
func TestP1Long(t *testing.T) {
	again := strings.Repeat
	for _, line := range []string{
		"load " + again("a(", 8000), "load " + again("(", 16000), "find " + again("*:not(", 2700), "plain " + again("*:is(", 3000), "find " + again("a ", 8000), "plain " + again("a, ", 5000),
		"remove " + again("9", 16000), "remove " + again("0", 16000), "insert 0 " + again("1", 16000) + " a", "class 0 " + again("a", 16000), "nearest " + again("1", 16000) + " a", again("show ", 3000), again(" ", 16000),
	} {
		want(t, [2]string{line, "error 1"}, [2]string{"show", "page"})
	}
}

// TestP2Answer: what was answered stays as it was, whatever is played behind it.
func TestP2Answer(t *testing.T) {
	r := draw(71)
	var all, copies []string
	for range 50 {
		var lines []string
		for range 20 {
			lines = append(lines, r.line(4))
		}
		got, _ := desk.Play(script(lines...))
		all, copies = append(all, got), append(copies, strings.Clone(got))
	}
	for i := range all {
		if all[i] != copies[i] {
			t.Errorf("P2: an answer has changed: %q, which was %q", all[i], copies[i])
		}
	}
}

// TestP3: a script gives the same again: no page is kept from one to the next.
func TestP3(t *testing.T) {
	first := map[string]string{}
	for round := range 3 {
		r := draw(72)
		for range 100 {
			var lines []string
			for range 12 {
				lines = append(lines, r.line(3))
			}
			s := script(lines...)
			got, err := desk.Play(s)
			if err != api.OK {
				t.Fatalf("P3: %q: error %d", s, err)
			}
			if round == 0 {
				first[s] = got
			} else if got != first[s] {
				t.Errorf("P3: %q gives %q, and %q ahead of it", s, got, first[s])
			}
			if page, _ := desk.Play("show\nfind *\n"); page != "page\n0\n" {
				t.Errorf("P3: behind %q there is %q in the beginning", s, page)
			}
			desk.Play("load")
		}
	}
}
