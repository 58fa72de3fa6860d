package lex

import "strings"

// kind is a kind of bytes; a byte may be of several.
type kind uint8

const (
	blank     kind = iota
	letter         // of a name
	digit          // to the base 10
	hexLetter      // the further digits to the base 16
	control        // what stands in no text
)

func (k kind) has(c byte) bool {
	switch k {
	case blank:
		return c == '\t' || c == '\n' || c == '\r' || c == ' '
	case letter:
		return c >= 'a' && c <= 'z' || c >= 'A' && c <= 'Z' || c == '_'
	case digit:
		return c >= '0' && c <= '9'
	case hexLetter:
		return c >= 'a' && c <= 'f' || c >= 'A' && c <= 'F'
	case control:
		return c < ' ' || c == 127
	}
	return false
}

// is: is a byte of one of these kinds?
func is(c byte, kinds ...kind) bool {
	for _, k := range kinds {
		if k.has(c) {
			return true
		}
	}
	return false
}

// past tells the place behind all bytes of these kinds that stand at a place.
func past(s string, at int, kinds ...kind) int {
	for at < len(s) && is(s[at], kinds...) {
		at++
	}
	return at
}

// first tells the first of these words with which s begins, or none.
func first(s string, words ...string) string {
	for _, w := range words {
		if strings.HasPrefix(s, w) {
			return w
		}
	}
	return ""
}
