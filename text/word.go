// Package text has what texts are made of, names and values, and reads texts piece by piece.
package text

import "pathfindery/api"

// IsName tells whether s is a name.
func IsName(s string) bool {
	if len(s) < 1 || len(s) > api.MaxName || !isLetter(s[0]) {
		return false
	}
	for i := range len(s) {
		if !isNameByte(s[i]) {
			return false
		}
	}
	return true
}

// IsValue tells whether s is a value.
func IsValue(s string) bool {
	if len(s) > api.MaxValue {
		return false
	}
	for i := range len(s) {
		if s[i] < 32 || s[i] > 126 || s[i] == '"' {
			return false
		}
	}
	return true
}

func isNameByte(b byte) bool { return isLetter(b) || isDigit(b) || b == '-' }

func isLetter(b byte) bool { return 'a' <= b && b <= 'z' }

func isDigit(b byte) bool { return '0' <= b && b <= '9' }
