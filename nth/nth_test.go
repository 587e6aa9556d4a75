package nth_test

import (
	"fmt"
	"math"
	"strings"
	"testing"

	"pathfindery/api"
	"pathfindery/nth"
)

// shown is how a count is shown, told by other means.
func shown(x api.Nth) string { return fmt.Sprintf("%dn%+d", x.A, x.B) }

// edges are numbers about the bounds of A and B.
func edges() []int {
	return []int{math.MinInt, -1 << 40, -1<<20 - 1, -1 << 20, -1<<20 + 1, -1, 0, 1, 1<<20 - 1, 1 << 20, 1<<20 + 1, 1 << 40, math.MaxInt}
}

func right(n int) bool { return n >= -1048576 && n <= 1048576 }

func TestC1Check(t *testing.T) {
	for _, a := range edges() {
		for _, b := range edges() {
			want := api.ErrRange
			if right(a) && right(b) {
				want = api.OK
			}
			if got := nth.Check(api.Nth{A: a, B: b}); got != want {
				t.Errorf("C1: Check %d, %d: %d, must be %d", a, b, got, want)
			}
		}
	}
}

// TestC1Holds holds small counts against all the numbers that they count.
func TestC1Holds(t *testing.T) {
	for a := -7; a <= 7; a++ {
		for b := -30; b <= 30; b++ {
			counted := map[int]int{}
			for k := range 100 {
				counted[a*k+b]++
			}
			for i := -30; i <= 60; i++ {
				want := i >= 1 && counted[i] > 0
				if got := nth.Holds(api.Nth{A: a, B: b}, i); got != want {
					t.Errorf("C1: Holds %dn%+d of %d: %v, must be %v", a, b, i, got, want)
				}
			}
		}
	}
}

func TestC1HoldsEdges(t *testing.T) {
	for _, c := range []struct {
		a, b, i int
		want    bool
	}{
		{1, 0, 1, true},
		{1, 0, 0, false},
		{1, 0, -1, false},
		{1, 0, 1 << 30, true},
		{1, 0, 1<<30 - 1, true},
		{1, 0, 1<<30 + 1, false},
		{1, 0, math.MaxInt, false},
		{1, 0, math.MinInt, false},
		{1, -5, 1 << 30, true},
		{-1, 0, 1, false},
		{-1, 0, math.MinInt, false},
		{0, 0, 0, false},
		{0, 0, 1, false},
		{0, 1, 1, true},
		{0, 1, 2, false},
		{0, -1, 1, false},
		{0, 1 << 20, 1 << 20, true},
		{1 << 20, 0, 1 << 20, true},
		{1 << 20, 0, 1 << 30, true},
		{1 << 20, 1, 1 << 30, false},
		{1 << 20, -1 << 20, 1 << 30, true},
		{1 << 20, -1<<20 + 1, 1, true},
		{1 << 20, -1<<20 + 1, 2, false},
		{-1 << 20, 1 << 20, 1 << 20, true},
		{-1 << 20, 1 << 20, 1, false},
		{-1, 1 << 20, 1, true},
		{-1, 1 << 20, 1<<20 + 1, false},
		{-1, -1 << 20, 1, false},
		{2, -1 << 20, 1 << 30, true},
		{2, -1 << 20, 1<<30 - 1, false},
		{1<<20 + 1, 1, 1, false},
		{-1<<20 - 1, 1, 1, false},
		{1, 1<<20 + 1, 1<<20 + 1, false},
		{1, -1<<20 - 1, 1, false},
		{math.MinInt, 1, 1, false},
		{math.MaxInt, 1, 1, false},
		{1, math.MinInt, 1, false},
		{0, math.MaxInt, math.MaxInt, false},
	} {
		if got := nth.Holds(api.Nth{A: c.a, B: c.b}, c.i); got != c.want {
			t.Errorf("C1: Holds %dn%+d of %d: %v, must be %v", c.a, c.b, c.i, got, c.want)
		}
	}
}

// TestExample2 is the document's second example.
func TestExample2(t *testing.T) {
	for _, c := range []struct {
		x    api.Nth
		want string
	}{{api.Nth{A: 2, B: -1}, "1 3 5 "}, {api.Nth{A: -1, B: 3}, "1 2 3 "}} {
		got := ""
		for i := range 6 {
			if nth.Holds(c.x, i) {
				got += fmt.Sprint(i, " ")
			}
		}
		if got != c.want {
			t.Errorf("example 2: %v holds of %s, must be %s", c.x, got, c.want)
		}
	}
}

func wantBoth(t *testing.T, x api.Nth, text string) {
	t.Helper()
	if s, err := nth.Show(x); s != text || err != api.OK {
		t.Errorf("C2: Show %v: %q, error %d; must be %q", x, s, err, text)
	}
	if y, err := nth.Read(text); y != x || err != api.OK {
		t.Errorf("C2: Read %q: %v, error %d; must be %v", text, y, err, x)
	}
}

func TestC2Both(t *testing.T) {
	wantBoth(t, api.Nth{}, "0n+0")
	wantBoth(t, api.Nth{A: 2, B: 1}, "2n+1")
	wantBoth(t, api.Nth{A: -1, B: 3}, "-1n+3")
	wantBoth(t, api.Nth{A: 10, B: -20}, "10n-20")
	wantBoth(t, api.Nth{A: -100, B: -7}, "-100n-7")
	wantBoth(t, api.Nth{A: 1, B: 0}, "1n+0")
	wantBoth(t, api.Nth{A: 1 << 20, B: 1 << 20}, "1048576n+1048576")
	wantBoth(t, api.Nth{A: -1 << 20, B: -1 << 20}, "-1048576n-1048576")
	wantBoth(t, api.Nth{A: 1048575, B: -1048575}, "1048575n-1048575")
	wantBoth(t, api.Nth{A: 999999, B: -1000000}, "999999n-1000000")
	for a := -120; a <= 120; a++ {
		for b := -120; b <= 120; b++ {
			wantBoth(t, api.Nth{A: a, B: b}, shown(api.Nth{A: a, B: b}))
		}
	}
	for _, a := range edges() {
		for _, b := range edges() {
			if x := (api.Nth{A: a, B: b}); nth.Check(x) == api.OK {
				wantBoth(t, x, shown(x))
			}
		}
	}
}

func TestC2ShowErrors(t *testing.T) {
	for _, a := range edges() {
		for _, b := range edges() {
			if right(a) && right(b) {
				continue
			}
			if s, err := nth.Show(api.Nth{A: a, B: b}); s != "" || err != api.ErrRange {
				t.Errorf("C2: Show %d, %d: %q, error %d", a, b, s, err)
			}
		}
	}
}

func wantRefused(t *testing.T, s string) {
	t.Helper()
	if x, err := nth.Read(s); err != api.ErrForm || x != (api.Nth{}) {
		t.Errorf("C2: Read %.60q: %v, error %d; must be refused", s, x, err)
	}
}

func TestC2ReadErrors(t *testing.T) {
	for _, s := range []string{
		"", "n", "2", "2n", "2n+", "2n-", "n+1", "-n+1", "+2n+1", "--2n+1", "2n++1", "2n+-1", "2n-+1", "2n--1",
		"02n+1", "2n+01", "00n+0", "0n+00", "-0n+1", "-0n+0", "0n-0", "2n-0", "2n-00", "-02n+1", "2N+1",
		" 2n+1", "2n+1 ", "2 n+1", "2n +1", "2n+ 1", "2n+1\n", "2n+1n", "2n+1n+1", "2n+1+1", "2nn+1", "2n1", "odd", "even", "1e3n+1", "0x1n+1", "1_0n+1", "2.0n+1",
		"1048577n+0", "-1048577n+0", "0n+1048577", "0n-1048577", "10485760n+0", "9999999n+0", "0n+9999999",
		"9223372036854775807n+0", "9223372036854775808n+0", "18446744073709551616n+0", "18446744073709551617n+1", "0n+18446744073709551617", "0n-340282366920938463463374607431768211457",
		"\x00", "\xff", "2n\xc2\xb11", "２n+1", "2n+１",
	} {
		wantRefused(t, s)
	}
	digits := strings.Repeat("1", 1<<20)
	zeros := strings.Repeat("0", 1<<20)
	for _, s := range []string{digits, zeros, digits + "n+1", "1n+" + digits, "1n-" + digits, zeros + "n+1", "1n+" + zeros} {
		wantRefused(t, s)
	}
}

// TestC2NothingElse reads all short texts: what is read is shown so, and nothing else is read.
func TestC2NothingElse(t *testing.T) {
	const letters = "0129n+- "
	var read func(s string, more int)
	read = func(s string, more int) {
		if x, err := nth.Read(s); err == api.OK && shown(x) != s {
			t.Errorf("C2: Read %q: %v, which is shown %q", s, x, shown(x))
		} else if err != api.OK {
			wantRefused(t, s)
		}
		for i := range letters {
			if more > 0 {
				read(s+letters[i:i+1], more-1)
			}
		}
	}
	read("", 6)
}

// TestC2EveryByte puts every byte at every place of a text.
func TestC2EveryByte(t *testing.T) {
	const s = "-20n+15"
	for i := range len(s) + 1 {
		for b := range 256 {
			inserted := s[:i] + string([]byte{byte(b)}) + s[i:]
			if x, err := nth.Read(inserted); err == api.OK && shown(x) != inserted {
				t.Errorf("C2: Read %q: %v", inserted, x)
			}
			if i == len(s) {
				continue
			}
			changed := s[:i] + string([]byte{byte(b)}) + s[i+1:]
			if x, err := nth.Read(changed); err == api.OK && shown(x) != changed {
				t.Errorf("C2: Read %q: %v", changed, x)
			}
		}
	}
}

// TestP1: no call panics, and with an error nothing else comes.
func TestP1(t *testing.T) {
	for _, a := range edges() {
		for _, b := range edges() {
			x := api.Nth{A: a, B: b}
			for _, i := range edges() {
				if nth.Holds(x, i) && nth.Check(x) != api.OK {
					t.Errorf("P1: %v is not right, and holds of %d", x, i)
				}
			}
			if s, err := nth.Show(x); err != api.OK && s != "" {
				t.Errorf("P1: Show %v: %q with error %d", x, s, err)
			}
			if y, err := nth.Read(shown(x)); err != api.OK && y != (api.Nth{}) {
				t.Errorf("P1: Read %q: %v with error %d", shown(x), y, err)
			}
		}
	}
}

// TestP3: a call answers the same again, whatever was called between.
func TestP3(t *testing.T) {
	texts := []string{"2n+1", "", "-1n+3", "2n-0", "1048577n+0", "0n+0", "2n+1n"}
	first := ""
	for round := range 3 {
		all := ""
		for _, s := range texts {
			x, err := nth.Read(s)
			y, wrong := nth.Show(api.Nth{A: x.A * 1048576, B: x.B})
			all += fmt.Sprint(x, err, y, wrong, nth.Check(x), nth.Holds(x, 3), nth.Holds(x, 2), "\n")
		}
		if round == 0 {
			first = all
		}
		if all != first {
			t.Errorf("P3: it was\n%sand is\n%s", first, all)
		}
	}
}
