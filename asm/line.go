package asm

import (
	"iter"
	"strconv"
	"strings"
)

// line is a line of a text, whose words are read from left to right. It keeps the first fault, and reads nothing behind it, so that none of
// those who read words has to ask whether there was one.
type line struct {
	text   string // the whole text up to the line's end, so that places are the text's own
	at     int    // the first byte that is not read yet
	failed bool
	fault  int // the place of what is wrong
}

// lines tells the lines of a text.
func lines(s string) iter.Seq[line] {
	return func(yield func(line) bool) {
		for at := 0; at <= len(s); {
			end := len(s)
			if length := strings.IndexByte(s[at:], '\n'); length >= 0 {
				end = at + length
			}
			if !yield(line{text: s[:end], at: at}) {
				return
			}
			at = end + 1
		}
	}
}

func (l *line) fail(at int) {
	if !l.failed {
		l.failed, l.fault = true, at
	}
}

// refuse fails at the next word, which may not stand there, or at the line's end, if one is wanting there.
func (l *line) refuse() {
	l.skip()
	l.fail(l.at)
}

// skip goes on to the next word, or to the line's end: a remark's ; is that, once it is seen.
func (l *line) skip() {
	for l.at < len(l.text) && isBlank(l.text[l.at]) {
		l.at++
	}
	if l.at < len(l.text) && l.text[l.at] == ';' {
		l.text = l.text[:l.at]
	}
}

func isBlank(c byte) bool { return c == '\t' || c == '\r' || c == ' ' }

// more: is there a word to be read?
func (l *line) more() bool {
	l.skip()
	return !l.failed && l.at < len(l.text)
}

// close fails, if there is a word more.
func (l *line) close() {
	if l.more() {
		l.refuse()
	}
}

// peek tells the next word without reading it: nothing, if it is a string, or there is none.
func (l *line) peek() string {
	if !l.more() {
		return ""
	}
	end := l.at
	for end < len(l.text) && !isBlank(l.text[end]) && l.text[end] != ';' && l.text[end] != '"' {
		end++
	}
	return l.text[l.at:end]
}

// word reads what peek told.
func (l *line) word(s string) { l.at += len(s) }

func (l *line) number() int64 {
	s := l.peek()
	n, ok := numberOf(s)
	if !ok {
		l.refuse()
		return 0
	}
	l.word(s)
	return n
}

// numberOf tells the number that a word is. A number is written in one way alone, so it is held against how it is told again.
func numberOf(s string) (int64, bool) {
	n, err := strconv.ParseInt(s, 10, 64)
	return n, err == nil && strconv.FormatInt(n, 10) == s
}

// str reads a string, and tells what it stands for.
func (l *line) str() string {
	if !l.more() || l.text[l.at] != '"' {
		l.refuse()
		return ""
	}
	var b []byte
	for at := l.at + 1; at < len(l.text); {
		if l.text[at] == '"' {
			l.at = at + 1
			return string(b)
		}
		c, size := piece(l.text[at:])
		if size == 0 {
			l.fail(at)
			return ""
		}
		b = append(b, c)
		at += size
	}
	l.fail(len(l.text))
	return ""
}

// piece tells the byte that the beginning of s stands for within a string, and how many bytes it has; 0: it may not stand there.
func piece(s string) (byte, int) {
	switch c := s[0]; {
	case c < ' ' || c > '~':
		return 0, 0
	case c != '\\':
		return c, 1
	case len(s) < 3:
		return 0, 0
	}
	high, low := strings.IndexByte(hexDigits, s[1]), strings.IndexByte(hexDigits, s[2])
	if high < 0 || low < 0 {
		return 0, 0
	}
	return byte(high<<4 | low), 3
}
