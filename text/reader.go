package text

import (
	"strings"

	"pathfindery/api"
)

// Reader holds what is left of a text. Its methods leave a text that is not as it must be by a panic; only Whole hands one out, and it recovers.
type Reader struct{ rest string }

// Whole reads all of s by one rule: ErrForm, if the rule refuses it, or leaves some of it.
func Whole[T any](s string, rule func(*Reader) T) (got T, err api.Errno) {
	defer func() {
		if recover() != nil {
			var nothing T
			got, err = nothing, api.ErrForm
		}
	}()
	r := &Reader{rest: s}
	got = rule(r)
	if r.rest != "" {
		Refuse()
	}
	return got, api.OK
}

// Refuse leaves a text that is not as it must be.
func Refuse() { panic(api.ErrForm) }

// Take goes on behind s, if s is what comes next.
func (r *Reader) Take(s string) bool {
	rest, ok := strings.CutPrefix(r.rest, s)
	r.rest = rest
	return ok
}

// Need goes on behind s, which must come next.
func (r *Reader) Need(s string) {
	if !r.Take(s) {
		Refuse()
	}
}

// Until goes on to the next s, which there must be, and tells what stands ahead of it.
func (r *Reader) Until(s string) string {
	ahead, _, ok := strings.Cut(r.rest, s)
	if !ok {
		Refuse()
	}
	r.rest = r.rest[len(ahead):]
	return ahead
}

// Name reads a name. What stands behind one is never a byte of a name, so that the longest is meant.
func (r *Reader) Name() string {
	s := r.run(isNameByte)
	if !IsName(s) {
		Refuse()
	}
	return s
}

// Value reads a value between its quotes.
func (r *Reader) Value() string {
	r.Need(`"`)
	s := r.run(func(b byte) bool { return b != '"' })
	r.Need(`"`)
	if !IsValue(s) {
		Refuse()
	}
	return s
}

// Number reads a number from 0 to most (at most 2^30), without 0 ahead.
func (r *Reader) Number(most int) int {
	s := r.run(isDigit)
	if s == "" || s[0] == '0' && len(s) > 1 {
		Refuse()
	}
	n := 0
	for i := range len(s) {
		n = n*10 + int(s[i]-'0')
		// Asked at each digit, so that no row of them runs over.
		if n > most {
			Refuse()
		}
	}
	return n
}

// run goes on behind the longest run of bytes that belong, and tells it.
func (r *Reader) run(belongs func(byte) bool) string {
	n := 0
	for n < len(r.rest) && belongs(r.rest[n]) {
		n++
	}
	s := r.rest[:n]
	r.rest = r.rest[n:]
	return s
}
