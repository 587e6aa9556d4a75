package desk

import (
	"strings"

	"pathfindery/api"
	"pathfindery/text"
)

// greatest is the greatest number of six digits.
const greatest = 999999

// refuse leaves the line with an error.
func refuse(err api.Errno) { panic(err) }

// must leaves the line, if a call had an error.
func must[T any](got T, err api.Errno) T {
	if err != api.OK {
		refuse(err)
	}
	return got
}

// cutNumber reads the number ahead, and tells what stands behind the blank behind it. Whatever comes last in a line is never empty, so that a blank that is missing need not be told from a line that ends there.
func cutNumber(s string) (int, string) {
	word, rest, _ := strings.Cut(s, " ")
	return number(word), rest
}

func number(s string) int {
	return must(text.Whole(s, func(r *text.Reader) int { return r.Number(greatest) }))
}
