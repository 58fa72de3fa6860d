package parse

import (
	"math/rand"
	"strings"
	"testing"

	"trammel/api"
)

// In these sources < stands ahead of a token behind which all lies one deeper, > ahead of the one that ends it (or behind what
// lies one deeper, where no token ends it), and @ where more may stand (of the exprs: what begins with a sign of a unary, too).
var (
	deepExprs = []string{
		"<( @ >)", "<- @>", "<~ @>", "<! @>", "a <[ @ >]", "a.b <[ 1 >] <[ @ >] . c", "f <( @ >)", "f <( a, @, b >)", "i8 <( @ >)", "len <( @ >)", "byte <( @ >)", "pop <( @ >)",
		"cut <( @, 0, 1 >)", "cut <( a, 0, @ >)", "new P <( @ >)", "new <[ >] <P> <( 1, @ >)", "<( a + <( @ >) - b >)", "<( <- a> * <- <( @ >)> >)", "<( <( a >) <[ 1 >] == @ >)",
	}
	deepTypes = []string{"<[ >] <@>", "<[ 4 >] <@>"}
	deepStmts = []string{
		"<{ @ >}", "if a <{ @ >}", "if a <{ >} else <{ @ >}", "if a <{ >} <else if b <{ @ >}>", "if a <{ >} <else if b <{ >} else <{ @ >}>", "if a <{ >} <else if b <{ >} <else if c <{ @ >}>>",
		"while a <{ @ >}", "L: while a <{ b = 1; @ >}", "for ;; <{ @ >}", "for a = 1; a < 2; a = a + 1 <{ @ >}", "switch a <{ case 1: @ >}", "switch a <{ case 1: b = 2; case 2, -3: @ default: >}", "switch a <{ default: @ >}",
	}
	deepEnds = []string{"return @;", "a = @;", "a.b = @;", "a <[ @ >] = 1;", "f <( @ >);", "push <( @, 1 >);", "if @ <{ >}", "while @ <{ >}", "for ; @ ; <{ >}", "for a = @ ;; <{ >}", "for ;; a = @ <{ >}", "switch @ <{ >}", "var a = @;"}
)

// marked tells a source without its marks, and where its first token is that is too deep, or -1. The signs < and > stand in none
// of these sources, but for 'a < 2': a mark has no blank behind it, but the source's end or a mark.
func marked(s string) (string, int) {
	var out strings.Builder
	depth, deep := 0, -1
	for i := range len(s) {
		blankBehind := i+1 < len(s) && s[i+1] == ' ' && s[i] == '<'
		switch {
		case s[i] == '<' && !blankBehind:
			if depth == api.MaxNest && deep < 0 {
				deep = out.Len()
			}
			depth++
		case s[i] == '>':
			depth--
		default:
			out.WriteByte(s[i])
		}
	}
	if depth != 0 {
		panic("the marks of " + s)
	}
	return out.String(), deep
}

// nested puts sources into each other, so many, the first one outermost.
func nested(list []string, innermost string) string {
	s := "@"
	for _, x := range list {
		s = strings.Replace(s, "@", x, 1)
	}
	return strings.Replace(s, "@", innermost, 1)
}

func asMarked(t *testing.T, start symbol, s string) bool {
	t.Helper()
	text, deep := marked(s)
	n, at, err := readAs(start, text)
	if deep < 0 && (err != api.OK || at != 0 || Check(n) != api.OK) {
		t.Fatalf("%s %s: %d at %d", start, short(text), err, at)
	}
	if deep >= 0 && (err != api.ErrNest || at != deep || !isZero(n)) {
		t.Fatalf("%s %s: %d at %d, want ErrNest at %d", start, short(text), err, at, deep)
	}
	return deep < 0
}

func repeat(s string, times int) []string {
	var list []string
	for range times {
		list = append(list, s)
	}
	return list
}

// Each kind of part, nested in itself: MaxNest deep, and one more.
func TestP4_1Nest(t *testing.T) {
	deepest := func(start symbol, ahead []string, part, innermost string) {
		t.Helper()
		for k := 1; ; k++ {
			if !asMarked(t, start, nested(append(ahead, repeat(part, k)...), innermost)) {
				return
			}
			if k > api.MaxNest {
				t.Fatalf("%s: %d times %q is not too deep", start, k, part)
			}
		}
	}
	for _, x := range deepExprs {
		deepest("expr", nil, x, "a")
		for _, end := range deepEnds {
			deepest("program", []string{"fn f<(>) <{ @ >}", end}, x, "a")
		}
	}
	for _, x := range deepTypes {
		deepest("type", nil, x, "i8")
		deepest("expr", []string{"new @ <(>)"}, x, "i8")
		deepest("program", []string{"record P <{ a @; >}"}, x, "P")
		deepest("program", []string{"fn f<(a @>)<{>}"}, x, "P")
		deepest("program", []string{"fn f<(>)<(i8, @>)<{>}"}, x, "P")
		deepest("program", []string{"fn f<(>) @ <{>}"}, x, "P")
	}
	for _, x := range deepStmts {
		deepest("program", []string{"fn f<(>) <{ @ >}"}, x, "")
		deepest("program", []string{"fn f<(>) <{ @ >}"}, x, "a = 1;")
	}
	if _, _, err := Expr(strings.Repeat("(", 64) + "a" + strings.Repeat(")", 64)); err != api.OK {
		t.Errorf("64 parentheses: %d", err)
	}
	refuses(t, "expr", strings.Repeat("(", 65)+"a"+strings.Repeat(")", 65), 64, api.ErrNest)
	refuses(t, "expr", strings.Repeat("-", 65), 64, api.ErrNest)
	refuses(t, "type", strings.Repeat("[]", 65)+"i8", 128, api.ErrNest)
	if _, _, err := Type(strings.Repeat("[]", 64) + "i8"); err != api.OK {
		t.Errorf("64 arrays: %d", err)
	}
}

// Parts of all kinds nested in each other.
func TestP4_1NestMixed(t *testing.T) {
	r := rand.New(rand.NewSource(49))
	good, bad := 0, 0
	for range 6000 {
		list := []string{"fn f<(>) <{ @ >}"}
		stmts, exprs := r.Intn(60), r.Intn(60)
		for range stmts {
			list = append(list, deepStmts[r.Intn(len(deepStmts))])
		}
		list = append(list, deepEnds[r.Intn(len(deepEnds))])
		for range exprs {
			list = append(list, deepExprs[r.Intn(len(deepExprs))])
		}
		if asMarked(t, "program", nested(list, "a")) {
			good++
		} else {
			bad++
		}
	}
	if good < 1000 || bad < 1000 {
		t.Errorf("%d are not too deep, %d are", good, bad)
	}
}

// At the depth MaxNest: signs between two operands, the - of a case, and all that goes no deeper may stand; what is too deep and no
// beginning is ErrSyntax; what is wrong ahead of what is too deep comes first.
func TestP4_1NestEdges(t *testing.T) {
	open, shut := strings.Repeat("(", 64), strings.Repeat(")", 64)
	for _, s := range []string{"a - b", "a.b", `"t"`, "a && b || c == d", "true"} {
		if _, at, err := Expr(open + s + shut); err != api.OK {
			t.Errorf("64 times ( and %s: %d at %d", s, err, at)
		}
	}
	for _, s := range []string{"-a", "~a", "!a", "(a)"} {
		refuses(t, "expr", open+s+shut, 64, api.ErrNest)
	}
	for _, s := range []string{"a(", "a[", "len(", "i8(", "new P("} {
		refuses(t, "expr", open+s, 64+len(s)-1, api.ErrNest)
	}
	refuses(t, "expr", open+"new [", 68, api.ErrNest)
	refuses(t, "expr", open+"a + -", 68, api.ErrNest)
	for _, s := range []string{"a !", "a ~", "a {", "1 (", "a.["} {
		refuses(t, "expr", open+s, 64+len(s)-1, api.ErrSyntax)
	}
	refuses(t, "expr", open+"{", 64, api.ErrSyntax)
	refuses(t, "expr", open+"[", 64, api.ErrSyntax)
	refuses(t, "expr", "a a "+open+"(", 2, api.ErrSyntax)
	refuses(t, "expr", open+"( $", 66, api.ErrChar)
	refuses(t, "type", strings.Repeat("[]", 64)+"(", 128, api.ErrSyntax)
	refuses(t, "type", strings.Repeat("[7]", 64)+"[", 192, api.ErrNest)

	ahead := "fn f() {" + strings.Repeat("{", 62) // what stands behind lies at 63
	behind := strings.Repeat("}", 63)
	if _, at, err := Source(ahead + "switch a { case -1, 2: b = 1; default: c(" + "" + "); }" + behind); err != api.ErrNest || at != len(ahead+"switch a { case -1, 2: b = 1; default: c") {
		t.Errorf("a call in a switch at 63: %d at %d", err, at)
	}
	if _, at, err := Source(ahead + "switch a { case -1, 2: b = -c; }" + behind); err != api.ErrNest || at != len(ahead+"switch a { case -1, 2: b = ") {
		t.Errorf("a - in a switch at 63: %d at %d", err, at)
	}
	if _, at, err := Source(ahead + "switch a { case -1, - 2i8: b = c - d; default: break; }" + behind); err != api.OK {
		t.Errorf("a switch at 63: %d at %d", err, at)
	}
	if _, at, err := Source(ahead + "if a { } else { }" + behind); err != api.OK {
		t.Errorf("an if at 63: %d at %d", err, at)
	}
	refuses(t, "program", ahead+"if a { } else if b { }"+behind, len(ahead)+19, api.ErrNest)
	refuses(t, "program", ahead+"if a { } else if (b", len(ahead)+17, api.ErrNest)
	refuses(t, "program", ahead+"if a { } else while", len(ahead)+14, api.ErrSyntax)
	refuses(t, "program", ahead+"{ if a { } else", len(ahead)+7, api.ErrNest)
	refuses(t, "program", ahead+"{ a; {", len(ahead)+3, api.ErrSyntax)
}

// What stands one behind the other, and not in one another, may be as many as there is room for.
func TestP4_1NotNested(t *testing.T) {
	row := func(part, innermost, between string) string {
		one := nested([]string{part}, innermost)
		return strings.Repeat(one+between, 99) + one
	}
	for _, x := range deepExprs {
		asMarked(t, "expr", row(x, "a", "*"))
		asMarked(t, "expr", "f <("+row(x, "a", ", ")+">)")
	}
	for _, x := range deepTypes {
		asMarked(t, "program", "record P <{"+row("a "+x+";", "P", "")+">}")
		asMarked(t, "program", "fn f<("+row("a "+x, "P", ", ")+">) <("+row(x, "P", ", ")+">) <{>}")
	}
	for _, x := range deepStmts {
		asMarked(t, "program", "fn f<(>) <{"+row(x, "", "")+">}")
		asMarked(t, "program", "fn f<(>) <{ switch a <{ case 1:"+row(x, "a = 1;", "")+">} >}")
	}
	for _, x := range deepEnds {
		asMarked(t, "program", "fn f<(>) <{"+row(x, "a", "")+">}")
		asMarked(t, "program", row("fn f<(>) <{"+x+">}", "a", ""))
	}
}
