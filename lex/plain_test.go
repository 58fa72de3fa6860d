package lex

import (
	"math/big"
	"regexp"
	"strconv"
	"strings"

	"trammel/api"
)

// What stands here says P3.1 once more, by patterns, so that what is tested is held to something that shares nothing with it.

const piecePattern = `(?:[^"\\\x00-\x1f\x7f]|\\["\\ntr]|\\x[0-9a-fA-F]{2})`

var (
	blanksAhead = regexp.MustCompile(`^(?:[\t\n\r ]|//[^\n]*)*`)
	nameAhead   = regexp.MustCompile(`^[a-zA-Z_][a-zA-Z_0-9]*`)
	numberAhead = regexp.MustCompile(`^([0-9]+)(i8|i32|i64)?`)
	wordAhead   = regexp.MustCompile(`^[a-zA-Z_0-9]`)
	signAhead   = regexp.MustCompile(`^(?:<<|>>|==|!=|<=|>=|&&|\|\||[(){}\[\],;:.+\-*/%&|^~!<>=])`)
	textAhead   = regexp.MustCompile(`^"(` + piecePattern + `*)"`)
	piecesAhead = regexp.MustCompile(`^"` + piecePattern + `*`)
	onePiece    = regexp.MustCompile(piecePattern)
	brokenOff   = regexp.MustCompile(`^(?:\\(?:x[0-9a-fA-F]?)?)?(?:[\x00-\x1f\x7f]|$)`)
)

func plainTokens(s string) ([]api.Token, int, api.Errno) {
	if len(s) > api.MaxSource {
		return nil, 0, api.ErrLimit
	}
	var list []api.Token
	for at := len(blanksAhead.FindString(s)); at < len(s); at += len(blanksAhead.FindString(s[at:])) {
		if len(list) == api.MaxTokens {
			return nil, at, api.ErrLimit
		}
		x, off, wrong := plainToken(s[at:])
		if wrong != api.OK {
			return nil, at + off, wrong
		}
		x.At, x.End = at, at+x.End
		list = append(list, x)
		at = x.End
	}
	return list, 0, api.OK
}

// plainToken reads the token with which s begins: its End counts from there, as does the place of what is wrong.
func plainToken(s string) (api.Token, int, api.Errno) {
	if w := nameAhead.FindString(s); w != "" {
		return api.Token{Kind: api.TokName, Text: w, End: len(w)}, 0, api.OK
	}
	if m := numberAhead.FindStringSubmatch(s); m != nil {
		return plainNumber(s, m[0], m[1], m[2])
	}
	if s[0] == '"' {
		return plainText(s)
	}
	if w := signAhead.FindString(s); w != "" {
		return api.Token{Kind: api.TokSign, Text: w, End: len(w)}, 0, api.OK
	}
	return api.Token{}, 0, api.ErrChar
}

func plainNumber(s, whole, digits, suffix string) (api.Token, int, api.Errno) {
	n, _ := new(big.Int).SetString(digits, 10)
	size := map[string]int{"": 64, "i8": 8, "i32": 32, "i64": 64}[suffix]
	if n.BitLen() > size || wordAhead.MatchString(s[len(whole):]) {
		return api.Token{}, 0, api.ErrNumber
	}
	return api.Token{Kind: api.TokNumber, Text: suffix, N: n.Uint64(), End: len(whole)}, 0, api.OK
}

func plainText(s string) (api.Token, int, api.Errno) {
	if m := textAhead.FindStringSubmatch(s); m != nil {
		return api.Token{Kind: api.TokText, Text: onePiece.ReplaceAllStringFunc(m[1], plainPiece), End: len(m[0])}, 0, api.OK
	}
	good := len(piecesAhead.FindString(s))
	if brokenOff.MatchString(s[good:]) {
		return api.Token{}, 0, api.ErrString
	}
	return api.Token{}, good, api.ErrEscape
}

func plainPiece(p string) string {
	switch {
	case !strings.HasPrefix(p, `\`):
		return p
	case strings.HasPrefix(p, `\x`):
		n, err := strconv.ParseUint(p[2:], 16, 8)
		if err != nil {
			panic(err)
		}
		return string([]byte{byte(n)})
	}
	return map[string]string{`\"`: "\"", `\\`: "\\", `\n`: "\n", `\t`: "\t", `\r`: "\r"}[p]
}
