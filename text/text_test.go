package text_test

import (
	"strings"
	"testing"

	"pathfindery/api"
	"pathfindery/text"
)

func TestIsName(t *testing.T) {
	for _, s := range []string{"a", "z", "a0", "a-", "a9-z", "abcdefghijkl"} {
		if !text.IsName(s) {
			t.Errorf("%q must be a name", s)
		}
	}
	for _, s := range []string{"", "A", "0", "-", "-a", "0a", "a b", "a_", "aB", "a\x00", "a\x80", "é", "abcdefghijklm"} {
		if text.IsName(s) {
			t.Errorf("%q must be no name", s)
		}
	}
}

func TestIsValue(t *testing.T) {
	for _, s := range []string{"", " ", "~", "A b", "]()[#.='", "0123456789abcdef"} {
		if !text.IsValue(s) {
			t.Errorf("%q must be a value", s)
		}
	}
	for _, s := range []string{`"`, "\x1f", "\x7f", "\n", "a\x00", "é", "0123456789abcdefg"} {
		if text.IsValue(s) {
			t.Errorf("%q must be no value", s)
		}
	}
}

// pair is a rule of all the pieces: a name, perhaps a sign, and a value or a number.
func pair(r *text.Reader) string {
	got := r.Name()
	if r.Take("!") {
		got += " not"
	}
	r.Need("=")
	if r.Take("#") {
		return got + " " + strings.Repeat("i", r.Number(12))
	}
	return got + " " + r.Value()
}

func TestWhole(t *testing.T) {
	for s, want := range map[string]string{
		`a="b"`:  "a b",
		`a!="b"`: "a not b",
		`a-1=""`: "a-1 ",
		"a=#0":   "a ",
		"a=#3":   "a iii",
		"a=#12":  "a iiiiiiiiiiii",
	} {
		if got, err := text.Whole(s, pair); got != want || err != api.OK {
			t.Errorf("%q: %q, error %d; must be %q", s, got, err, want)
		}
	}
	for _, s := range []string{"", "a", "=", `="b"`, `A="b"`, `a"b"`, `a!`, `a!!="b"`, `a=b`, `a="b`, `a=b"`, `a="b" `, ` a="b"`, "a=\"\n\"", "a=#", "a=#-1", "a=#01", "a=#00", "a=#13", "a=#20", "a=#99999999999999999999999", "a=#1x"} {
		if got, err := text.Whole(s, pair); got != "" || err != api.ErrForm {
			t.Errorf("%q: %q, error %d; must be refused", s, got, err)
		}
	}
}

func TestNumberBelowTen(t *testing.T) {
	digit := func(r *text.Reader) int { return r.Number(3) }
	for s, want := range map[string]api.Errno{"0": api.OK, "3": api.OK, "4": api.ErrForm, "9": api.ErrForm, "10": api.ErrForm} {
		if _, err := text.Whole(s, digit); err != want {
			t.Errorf("%q: error %d, must be %d", s, err, want)
		}
	}
}

func TestUntil(t *testing.T) {
	between := func(r *text.Reader) string {
		r.Need("<")
		s := r.Until("->")
		r.Need("->")
		return s
	}
	for s, want := range map[string]string{"<a->": "a", "<->": "", "<a-b>->": "a-b>"} {
		if got, err := text.Whole(s, between); got != want || err != api.OK {
			t.Errorf("%q: %q, error %d; must be %q", s, got, err, want)
		}
	}
	for _, s := range []string{"<", "<a", "<a-", "<a>", "<a->b->", "<a-> "} {
		if got, err := text.Whole(s, between); got != "" || err != api.ErrForm {
			t.Errorf("%q: %q, error %d; must be refused", s, got, err)
		}
	}
	if got, err := text.Whole("a", func(r *text.Reader) string { return r.Until(".") }); got != "" || err != api.ErrForm {
		t.Errorf("without what is looked for: %q, error %d; must be refused", got, err)
	}
}
