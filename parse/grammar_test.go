package parse

import (
	"slices"
	"strings"
	"testing"

	"trammel/api"
	"trammel/lex"
)

// The chapter's grammar as it stands there. A second reading, which knows nothing of the reader, goes by it.
const chapter = `
    program = { record | func }
    record  = "record" NAME "{" { NAME type ";" } "}"
    func    = "fn" NAME "(" [ param { "," param } ] ")" [ type | "(" type { "," type } ")" ] block
    param   = NAME type
    type    = "i8" | "i32" | "i64" | "bool" | "bytes" | NAME | "[" COUNT "]" type | "[" "]" type
    block   = "{" { stmt } "}"
    stmt    = block | var ";" | simple ";" | if | [ NAME ":" ] ( while | for | switch )
            | "break" [ NAME ] ";" | "continue" [ NAME ] ";" | "return" [ list ] ";" | "trap" BYTE ";"
    var     = "var" NAME { "," NAME } "=" expr
    simple  = NAME { "," NAME } "=" expr | chain "=" expr | call | "push" "(" expr "," expr ")"
    chain   = ( NAME | call ) tail { tail }
    tail    = "." NAME | "[" expr "]"
    if      = "if" expr block [ "else" ( block | if ) ]
    while   = "while" expr block
    for     = "for" [ var | simple ] ";" [ expr ] ";" [ simple ] block
    switch  = "switch" expr "{" { "case" const { "," const } ":" { stmt } } [ "default" ":" { stmt } ] "}"
    const   = [ "-" ] NUMBER
    list    = expr { "," expr }
    call    = NAME "(" [ list ] ")"
    expr    = both { "||" both }
    both    = rel { "&&" rel }
    rel     = sum [ ( "==" | "!=" | "<" | "<=" | ">" | ">=" ) sum ]
    sum     = product { ( "+" | "-" | "|" | "^" ) product }
    product = unary { ( "*" | "/" | "%" | "&" | "<<" | ">>" ) unary }
    unary   = ( "-" | "~" | "!" ) unary | primary { tail }
    primary = NUMBER | TEXT | "true" | "false" | NAME | call | ( "i8" | "i32" | "i64" ) "(" expr ")"
            | "new" type "(" [ list ] ")" | "len" "(" expr ")" | "cut" "(" expr "," expr "," expr ")"
            | "byte" "(" expr ")" | "pop" "(" expr ")" | "(" expr ")"
`

// symbol is a symbol of a rule: a kind of tokens (in capitals), a token's text (in quotes), or what rules tell.
type symbol string

// rule is a way to write what a symbol stands for.
type rule struct {
	left  symbol
	right []symbol
}

type grammar struct {
	rules []rule
	of    map[symbol][]int // the rules of a symbol
	empty map[symbol]bool  // can it stand for nothing?
	words []string         // what is not read yet
}

func readGrammar(text string) *grammar {
	g := &grammar{of: map[symbol][]int{}, empty: map[symbol]bool{}, words: strings.Fields(text)}
	for len(g.words) > 0 {
		left := symbol(g.take())
		if g.take() != "=" {
			panic("no = behind " + left)
		}
		g.ways(left)
	}
	for changed := true; changed; {
		changed = false
		for _, r := range g.rules {
			if !g.empty[r.left] && !slices.ContainsFunc(r.right, func(s symbol) bool { return !g.empty[s] }) {
				g.empty[r.left], changed = true, true
			}
		}
	}
	return g
}

func (g *grammar) take() string {
	w := g.words[0]
	g.words = g.words[1:]
	return w
}

func (g *grammar) put(left symbol, right ...symbol) {
	g.of[left] = append(g.of[left], len(g.rules))
	g.rules = append(g.rules, rule{left, right})
}

// ways reads what may stand for a symbol, up to the end of the rule or of the group.
func (g *grammar) ways(left symbol) {
	var right []symbol
	for len(g.words) > 0 && (len(g.words) < 2 || g.words[1] != "=") {
		switch w := g.take(); w {
		case "|":
			g.put(left, right...)
			right = nil
		case "}", "]", ")":
			g.put(left, right...)
			return
		case "{", "[", "(":
			inner := symbol(w + string(rune('0'+len(g.rules)%10)) + strings.Repeat("'", len(g.rules)/10))
			for g.of[inner] != nil || inner == left {
				inner += "*"
			}
			g.of[inner] = []int{} // so that no group within it has its name
			g.ways(inner)
			if w == "{" {
				more := inner + "+"
				g.put(more)
				g.put(more, more, inner)
				inner = more
			}
			if w == "[" {
				g.put(inner)
			}
			right = append(right, inner)
		default:
			right = append(right, symbol(w))
		}
	}
	g.put(left, right...)
}

// matches: is a token what a symbol tells?
func (s symbol) matches(t api.Token) bool {
	switch s {
	case "NAME":
		return t.Kind == api.TokName && !lex.Kept(t.Text)
	case "NUMBER":
		return t.Kind == api.TokNumber
	case "COUNT":
		return t.Kind == api.TokNumber && t.Text == ""
	case "BYTE":
		return t.Kind == api.TokNumber && t.Text == "" && t.N < 256
	case "TEXT":
		return t.Kind == api.TokText
	}
	return (t.Kind == api.TokSign || t.Kind == api.TokName && lex.Kept(t.Text)) && string(s) == `"`+t.Text+`"`
}

// spot is a place in a rule, and where what it stands for began.
type spot struct{ rule, dot, from int }

// chart tells all readings of a beginning at once: after each of its tokens, in which spots one can be.
type chart struct {
	*grammar
	start symbol
	sets  [][]spot
}

func (g *grammar) begin(start symbol) chart {
	c := chart{grammar: g, start: start}
	var first []spot
	for _, r := range g.of[start] {
		first = append(first, spot{r, 0, 0})
	}
	return c.close(first)
}

func (c chart) at(p spot) symbol {
	if r := c.rules[p.rule]; p.dot < len(r.right) {
		return r.right[p.dot]
	}
	return ""
}

// close puts a set behind the others, with all that follows without a token.
func (c chart) close(set []spot) chart {
	have := map[spot]bool{}
	for _, p := range set {
		have[p] = true
	}
	add := func(p spot) {
		if !have[p] {
			have[p] = true
			set = append(set, p)
		}
	}
	here := len(c.sets)
	for i := 0; i < len(set); i++ {
		p := set[i]
		next := c.at(p)
		for _, r := range c.of[next] {
			add(spot{r, 0, here})
		}
		if c.empty[next] {
			add(spot{p.rule, p.dot + 1, p.from})
		}
		if next == "" && p.from < here {
			for _, q := range c.sets[p.from] {
				if c.at(q) == c.rules[p.rule].left {
					add(spot{q.rule, q.dot + 1, q.from})
				}
			}
		}
	}
	return chart{c.grammar, c.start, append(slices.Clip(c.sets), set)}
}

// step goes on behind a token; false: with it there is no beginning.
func (c chart) step(t api.Token) (chart, bool) {
	var set []spot
	for _, p := range c.sets[len(c.sets)-1] {
		if next := c.at(p); next != "" && c.of[next] == nil && next.matches(t) {
			set = append(set, spot{p.rule, p.dot + 1, p.from})
		}
	}
	if len(set) == 0 {
		return c, false
	}
	return c.close(set), true
}

// whole: is what was gone over all of a start?
func (c chart) whole() bool {
	return slices.ContainsFunc(c.sets[len(c.sets)-1], func(p spot) bool {
		return c.at(p) == "" && p.from == 0 && c.rules[p.rule].left == c.start
	})
}

// plain tells what the chapter's grammar says of a source: the place of what is wrong first, and what it is. It knows of no depth.
func (g *grammar) plain(start symbol, s string) (int, api.Errno) {
	tokens, place, wrong := lex.Tokens(s)
	if wrong != api.OK {
		return place, wrong
	}
	c := g.begin(start)
	for _, t := range tokens {
		more, ok := c.step(t)
		if !ok {
			return t.At, api.ErrSyntax
		}
		c = more
	}
	if !c.whole() {
		return len(s), api.ErrSyntax
	}
	return 0, api.OK
}

// asGrammar holds Source, Expr or Type to the grammar, but for depth.
func asGrammar(t *testing.T, g *grammar, start symbol, s string) {
	t.Helper()
	place, wrong := g.plain(start, s)
	asTold(t, start, s, place, wrong)
}

func asTold(t *testing.T, start symbol, s string, place int, wrong api.Errno) {
	t.Helper()
	n, at, err := readAs(start, s)
	if at != place || err != wrong {
		t.Fatalf("%s %s: %d at %d, want %d at %d", start, short(s), err, at, wrong, place)
	}
	if err != api.OK && !isZero(n) {
		t.Fatalf("%s %s: a tree beside the error %d", start, short(s), err)
	}
	if err == api.OK && Check(n) != api.OK {
		t.Fatalf("%s %s: Check of its tree: %d", start, short(s), Check(n))
	}
}

func readAs(start symbol, s string) (api.Node, int, api.Errno) {
	switch start {
	case "expr":
		return Expr(s)
	case "type":
		return Type(s)
	}
	return Source(s)
}

// all tokens that matter: one or two of each kind, each kept word, each sign.
func alphabet() []string {
	list := strings.Fields("( ) { } [ ] , ; : . + - * / % & | ^ ~ ! < > = << >> == != <= >= && ||")
	list = append(list, strings.Fields("record fn var if else while for switch case default break continue return trap new true false i8 i32 i64 bool bytes len cut byte push pop")...)
	return append(list, "a", "7", "256", "7i8", `"("`, `"if"`)
}

// goOver holds the reader to the grammar at each beginning that has at most so many tokens behind a stem, and at each token behind it.
func goOver(t *testing.T, g *grammar, start symbol, stem string, most int) {
	c := g.begin(start)
	for _, x := range lex.Each(stem) {
		var ok bool
		if c, ok = c.step(x); !ok {
			t.Fatalf("the stem %q is no beginning", stem)
		}
	}
	deeper(t, c, stem, most)
}

func deeper(t *testing.T, c chart, s string, most int) {
	if c.whole() {
		asTold(t, c.start, s, 0, api.OK)
	} else {
		asTold(t, c.start, s, len(s), api.ErrSyntax)
	}
	if most == 0 {
		return
	}
	for _, a := range alphabet() {
		tokens, _, _ := lex.Tokens(a)
		longer := s + " " + a
		if more, ok := c.step(tokens[0]); ok {
			deeper(t, more, longer, most-1)
		} else {
			asTold(t, c.start, longer, len(s)+1, api.ErrSyntax)
		}
	}
}
