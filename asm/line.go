package asm

import (
	"iter"
	"strconv"
	"strings"
)

// line is a line of a text, whose words are read from left to right. It keeps the first fault, and reads nothing behind it, so that none of
// those who read words has to ask whether there was one.
type line struct {
	text   string // the whole text up to the line's end, so that places are the text's own
	at     int    // the first byte that is not read yet
	failed bool
	fault  int // the place of what is wrong
}

// lines tells the lines of a text.
func lines(s string) iter.Seq[line] {
	return func(yield func(line) bool) {
		for at := 0; at <= len(s); {
			end := len(s)
			if length := strings.IndexByte(s[at:], '\n'); length >= 0 {
				end = at + length
			}
			if !yield(line{text: s[:end], at: at}) {
				return
			}
			at = end + 1
		}
	}
}

func (l *line) fail(at int) {
	if !l.failed {
		l.failed, l.fault = true, at
	}
}

// refuse fails at the next word, which may not stand there, or at the line's end, if one is wanting there. A " that begins no string begins
// no word either: what may stand there is not asked of it, and it is told where it stops being a string.
func (l *line) refuse() {
	l.skip()
	at := l.at
	if _, size, ok := quoted(l.text[at:]); !ok {
		at += size
	}
	l.fail(at)
}

// skip goes on to the next word, or to the line's end: a remark's ; is that, once it is seen.
func (l *line) skip() {
	for l.at < len(l.text) && isBlank(l.text[l.at]) {
		l.at++
	}
	if l.at < len(l.text) && l.text[l.at] == ';' {
		l.text = l.text[:l.at]
	}
}

func isBlank(c byte) bool { return c == '\t' || c == '\r' || c == ' ' }

// more: is there a word to be read?
func (l *line) more() bool {
	l.skip()
	return !l.failed && l.at < len(l.text)
}

// close fails, if there is a word more.
func (l *line) close() {
	if l.more() {
		l.refuse()
	}
}

// peek tells the next word without reading it: nothing, if it is a string, or there is none.
func (l *line) peek() string {
	if !l.more() {
		return ""
	}
	end := l.at
	for end < len(l.text) && !isBlank(l.text[end]) && l.text[end] != ';' && l.text[end] != '"' {
		end++
	}
	return l.text[l.at:end]
}

// word reads what peek told.
func (l *line) word(s string) { l.at += len(s) }

func (l *line) number() int64 {
	s := l.peek()
	n, ok := numberOf(s)
	if !ok {
		l.refuse()
		return 0
	}
	l.word(s)
	return n
}

// numberOf tells the number that a word is. A number is written in one way alone, so it is held against how it is told again.
func numberOf(s string) (int64, bool) {
	n, err := strconv.ParseInt(s, 10, 64)
	return n, err == nil && strconv.FormatInt(n, 10) == s
}

// str reads a string, and tells what it stands for.
func (l *line) str() string {
	if l.more() {
		if s, size, ok := quoted(l.text[l.at:]); ok {
			l.at += size
			return s
		}
	}
	l.refuse()
	return ""
}

// quoted tells what the string stands for that the rest of a line begins with, and how many bytes it has; false: it begins with none, and so
// many bytes are ahead of what is wrong with it (0, if there is not even a ").
func quoted(s string) (string, int, bool) {
	if !strings.HasPrefix(s, `"`) {
		return "", 0, false
	}
	var b []byte
	at := 1
	for at < len(s) && s[at] != '"' {
		c, size := piece(s[at:])
		if size == 0 {
			return "", at, false
		}
		b = append(b, c)
		at += size
	}
	if at == len(s) {
		return "", at, false
	}
	return string(b), at + 1, true
}

// piece tells the byte that the beginning of s stands for within a string, and how many bytes it has; 0: it may not stand there.
func piece(s string) (byte, int) {
	switch c := s[0]; {
	case c < ' ' || c > '~':
		return 0, 0
	case c != '\\':
		return c, 1
	case len(s) < 3:
		return 0, 0
	}
	high, low := strings.IndexByte(hexDigits, s[1]), strings.IndexByte(hexDigits, s[2])
	if high < 0 || low < 0 {
		return 0, 0
	}
	return byte(high<<4 | low), 3
}
