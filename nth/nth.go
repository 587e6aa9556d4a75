// Package nth: numbers that count: see doc/03-nth.md.
package nth

import (
	"strconv"

	"pathfindery/api"
	"pathfindery/text"
)

// greatest is the greatest number that one can hold of.
const greatest = 1 << 30

// Check: see the chapter.
func Check(x api.Nth) api.Errno {
	if !inBounds(x.A) || !inBounds(x.B) {
		return api.ErrRange
	}
	return api.OK
}

// Holds: see the chapter.
func Holds(x api.Nth, i int) bool {
	if Check(x) != api.OK || i < 1 || i > greatest {
		return false
	}
	way := i - x.B
	if x.A == 0 {
		return way == 0
	}
	return way%x.A == 0 && way/x.A >= 0
}

// Show: see the chapter.
func Show(x api.Nth) (string, api.Errno) {
	if err := Check(x); err != api.OK {
		return "", err
	}
	s := strconv.Itoa(x.A) + "n"
	if x.B >= 0 {
		s += "+"
	}
	return s + strconv.Itoa(x.B), api.OK
}

// Read: see the chapter.
func Read(s string) (api.Nth, api.Errno) { return text.Whole(s, readNth) }

func inBounds(n int) bool { return n >= -api.MaxNum && n <= api.MaxNum }

func readNth(r *text.Reader) api.Nth {
	a := readNum(r, r.Take("-"))
	r.Need("n")
	minus := r.Take("-")
	if !minus {
		r.Need("+")
	}
	return api.Nth{A: a, B: readNum(r, minus)}
}

func readNum(r *text.Reader, minus bool) int {
	n := r.Number(api.MaxNum)
	if !minus {
		return n
	}
	// 0 has one text alone, the one without a sign.
	if n == 0 {
		text.Refuse()
	}
	return -n
}
