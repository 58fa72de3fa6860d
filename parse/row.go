package parse

import (
	"slices"

	"trammel/api"
	"trammel/lex"
)

// row is a row of tokens, taken from the left.
type row struct {
	rest []api.Token
	end  int // the source's
}

// ahead tells the token ahead of which so many stand; behind the last one a token of no kind, at the source's end.
func (r *row) ahead(so int) api.Token {
	if so < len(r.rest) {
		return r.rest[so]
	}
	return api.Token{At: r.end}
}

func (r *row) next() api.Token { return r.ahead(0) }

// take tells the next token, and goes on behind it.
func (r *row) take() api.Token {
	t := r.next()
	r.rest = r.rest[min(1, len(r.rest)):]
	return t
}

// drop leaves nothing to be taken.
func (r *row) drop() { r.rest = nil }

func (r *row) done() bool { return len(r.rest) == 0 }

// sign: is the next token one of these signs?
func (r *row) sign(signs ...string) bool { return is(r.next(), api.TokSign, signs...) }

// word: is the next token one of these kept words?
func (r *row) word(words ...string) bool { return is(r.next(), api.TokName, words...) }

// name: is the next token a name that is no kept word?
func (r *row) name() bool { return isName(r.next()) }

// label: is the next token a name, and a colon behind it?
func (r *row) label() bool { return r.name() && is(r.ahead(1), api.TokSign, ":") }

// number: is the next token a number?
func (r *row) number() bool { return r.next().Kind == api.TokNumber }

// count: is the next token a number without a suffix?
func (r *row) count() bool { return r.number() && r.next().Text == "" }

func is(t api.Token, kind uint8, texts ...string) bool {
	return t.Kind == kind && slices.Contains(texts, t.Text)
}

func isName(t api.Token) bool { return t.Kind == api.TokName && lex.Name(t.Text) }
