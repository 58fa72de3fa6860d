package asm

import (
	"fmt"
	"math"
	"strings"
	"testing"

	"trammel/api"
)

func TestP14_2Examples(t *testing.T) {
	one := api.Module{Types: []api.Type{{Kind: api.Grow, Elem: 1}}}
	reads(t, "", api.Module{})
	reads(t, "grow 1 ; bytes", one)
	reads(t, "func \"f\" 0 1\nparams\nresults 4\ntrue\nreturn\nend", api.Module{Funcs: []api.Routine{{Name: "f", Results: []int{4}, Stack: 1, Code: []byte{4, 0x33}}}})
	refused(t, "growl 1", 0, api.ErrAsm)
	refused(t, "grow", 4, api.ErrAsm)
	refused(t, "grow 1 2", 7, api.ErrAsm)
	refused(t, "grow 01", 5, api.ErrAsm)
	refused(t, "text \"a", 7, api.ErrAsm)
	refused(t, `text "\4"`, 6, api.ErrAsm)
	refused(t, `text "a"b`, 8, api.ErrAsm)
	refused(t, "true", 0, api.ErrAsm)
	wrong(t, "func \"f\" 0 0\nparams\n@true")
	refused(t, "grow 16\ngrow 18", 0, api.ErrModule)
}

func TestP14_2Limit(t *testing.T) {
	tail := strings.Repeat(" ", 1<<25-len("grow 1"))
	one := api.Module{Types: []api.Type{{Kind: api.Grow, Elem: 1}}}
	reads(t, "grow 1"+tail, one)
	refused(t, "grow 1 "+tail, 0, api.ErrLimit)
	reads(t, tail+"grow 1", one)
	refused(t, tail+"grow 1\n", 0, api.ErrLimit)
	refused(t, tail+"growl1", 1<<25-6, api.ErrAsm) // at the limit its words are asked
	refused(t, tail+"growl 1", 0, api.ErrLimit)    // beyond it nothing is
}

// Far more than a module may have, with a last line that is right, or wrong.
func TestP14_2FarBeyond(t *testing.T) {
	fill := func(head, x, tail string) string {
		return head + strings.Repeat(x, (1<<22-len(head)-len(tail))/len(x)) + tail
	}
	head := "func\"f\"0 0\nparams\nresults\n"
	for _, s := range []string{
		fill("", "grow 1\n", ""),
		fill("", "text\"\"\n", ""),
		fill("", head+"end\n", ""),
		fill("record\"\"", "\"\"1", "\n"),
		fill("func\"f\"0 0\nparams", " 1", "\nresults\nend\n"),
		fill("func\"f\"0 0\nparams\nresults", " 1", "\nend\n"),
		fill(head, "pop\n", "end\n"),
		fill("text\"", "a", "\"\n"),
		head + "switch 1" + strings.Repeat(" 0:0", 65535) + " else 0\nend\n",
	} {
		refused(t, s, 0, api.ErrLimit)
		refused(t, s+"x", len(s), api.ErrAsm)
	}
	for _, n := range []int{65536, 65537, 65538, 100000, 1 << 22} { // no instruction has so many arms
		refused(t, head+"switch 1"+strings.Repeat(" 0:0", n)+" else 0\nend\n", len(head), api.ErrAsm)
	}
	refused(t, strings.Repeat("x", 1<<25), 0, api.ErrAsm)
	refused(t, "grow "+strings.Repeat("1", 1<<24), 5, api.ErrAsm)
	refused(t, "grow \""+strings.Repeat("1", 1<<24), 6+(1<<24), api.ErrAsm)
	refused(t, "grow "+strings.Repeat("\"", 1<<24), 5, api.ErrAsm)
	reads(t, strings.Repeat("\n", 1<<25), api.Module{})
	reads(t, ";"+strings.Repeat("\"", 1<<24), api.Module{})
}

// What parts words, and what does not.
func TestP14_2Words(t *testing.T) {
	pair := api.Module{Types: []api.Type{{Kind: api.Record, Name: "P", Fields: []api.Field{{Name: "a", Type: 1}, {Name: "b", Type: 2}}}}}
	for _, s := range []string{
		`record "P" "a" 1 "b" 2`,
		`record"P""a"1"b"2`,
		`record"P" "a"1 "b"2`,
		"record\t\"P\"\r\"a\" 1\t\"b\"\t2",
		"\t\r record \t\"P\"\r\r\"a\"\t \r1 \"b\"   2\t\r ",
		`record"P""a"1"b"2;`,
		`record"P""a"1"b"2;3`,
		`record"P""a"1"b"2 ;"`,
		"record\"P\"\"a\"1\"b\"2\r\n",
	} {
		reads(t, s, pair)
	}
	for c := range 256 {
		b := string([]byte{byte(c)})
		switch b {
		case "\t", "\r", " ":
			reads(t, "grow"+b+"1", api.Module{Types: []api.Type{{Kind: api.Grow, Elem: 1}}})
			reads(t, "grow 1"+b, api.Module{Types: []api.Type{{Kind: api.Grow, Elem: 1}}})
			reads(t, b+"grow 1", api.Module{Types: []api.Type{{Kind: api.Grow, Elem: 1}}})
		case "\n":
			refused(t, "grow\n1", 4, api.ErrAsm)
			reads(t, "grow 1\n", api.Module{Types: []api.Type{{Kind: api.Grow, Elem: 1}}})
			reads(t, "\ngrow 1", api.Module{Types: []api.Type{{Kind: api.Grow, Elem: 1}}})
		case ";":
			refused(t, "grow"+b+"1", 4, api.ErrAsm)
		case "\"":
			refused(t, "grow"+b+"1", 6, api.ErrAsm) // a string without an end
			refused(t, "grow"+b+"1"+b, 4, api.ErrAsm)
		default: // any other byte is a word's: also \v, \f, 0 and those above 127, alone or as parts of a blank of Unicode's
			refused(t, "grow"+b+"1", 0, api.ErrAsm)
			refused(t, b+"grow 1", 0, api.ErrAsm)
			refused(t, "grow 1 "+b, 7, api.ErrAsm)
			if c < '0' || c > '9' {
				refused(t, "grow "+b, 5, api.ErrAsm)
			}
		}
	}
	wrong(t, "@grow\u00a01", "@grow\u20031", "grow @\ufeff1", "@grow\v1", "@grow\f1", "@grow\x001", "@GROW 1", "@Grow 1", "@\"grow\" 1", "@grow1", "@1", "@-", "@\"\"", "\"@")
	wrong(t, `record @P`, `record "P"@a`, `record "P" "a"@"b"`, `record "P" "a"@`, `record "P""a"@-`, `record"P"@1`, `text "a"@"b"`, `text "a""@`)
}

func TestP14_2Remarks(t *testing.T) {
	one := api.Module{Types: []api.Type{{Kind: api.Grow, Elem: 1}}}
	for _, s := range []string{"grow 1;", "grow 1;2", "grow 1 ; 2", "grow 1;\"", "grow 1;\x00\xff\\", "; a\ngrow 1", ";\n;\n  ;;\t; grow 2\ngrow 1\n;", "grow 1\n\t; grow 2"} {
		reads(t, s, one)
	}
	for _, s := range []string{";", ";;", " ;", ";\n", "\n;\n\n", "; grow", ";\"", "\r\t ;x\n\r\t "} {
		reads(t, s, api.Module{})
	}
	for _, s := range []string{`text "a;b"`, `text "a;b";"`, `text"a;b"; c`, "text \"a;b\"\r"} {
		reads(t, s, api.Module{Texts: []string{"a;b"}})
	}
	reads(t, `text ";"`, api.Module{Texts: []string{";"}})
	reads(t, `record ";" ";;" 1;`, api.Module{Types: []api.Type{{Kind: api.Record, Name: ";", Fields: []api.Field{{Name: ";;", Type: 1}}}}})
	wrong(t, "grow@;1", "grow @;", "grow  @;;", "grow@; x\ngrow 1", "fixed 1@;2", "record @;\"a\"", `record "a" "b"@;1`, "grow @;\r\n", "text @;\"a\"", inFunc("conv 1 @; 2"), inFunc("switch 1 1:0 @; else 2"), inFunc("add@;"))
	wrong(t, "@g;row 1", "@x;", "@gr;\nx", ";\n@x;")
}

// A line's end is where its byte 10 stands, or the text's end, behind all blanks.
func TestP14_2LineEnds(t *testing.T) {
	wrong(t, "grow@", "grow@\n", "grow @", "grow  \t\r@\n", "grow\r@\n", "grow@\n1", "\n\ngrow@\n\n", "fixed 1@\n2", "grow 1\nfixed 1 @\ngrow 1", "grow\r@")
	reads(t, "grow 1\ngrow 2", api.Module{Types: []api.Type{{Kind: api.Grow, Elem: 1}, {Kind: api.Grow, Elem: 2}}})
	reads(t, "grow 1\n\n\ngrow 2\n", api.Module{Types: []api.Type{{Kind: api.Grow, Elem: 1}, {Kind: api.Grow, Elem: 2}}})
	reads(t, inFunc("pop")[:len(inFunc("pop"))-1], inFuncOf(api.Instr{Op: api.OpPop}))
}

// Each byte that may, and may not, stand in a string.
func TestP14_2Strings(t *testing.T) {
	for c := range 256 {
		b := string([]byte{byte(c)})
		switch {
		case b == "\n":
			wrong(t, "text \"a@\nb\"")
		case b == "\"":
			wrong(t, `text "a"@b"`)
		case b == "\\":
			wrong(t, `text "a@\"`, `text "a@\xb"`, `text "ab@\"`)
		case c < 32 || c > 126:
			wrong(t, "text \"a@"+b+"b\"", "text \"@"+b, "text \"@"+b+"\\zz", "record \"a\" \"b@"+b+"\" 1", "func \""+"@"+b+"\" 1 2")
		default:
			reads(t, "text \"a"+b+"b\"", api.Module{Texts: []string{"a" + b + "b"}})
			reads(t, "text\""+b+"\"", api.Module{Texts: []string{b}})
		}
	}
	reads(t, `text ""`, api.Module{Texts: []string{""}})
	wrong(t, "text \"@\u00e4\"")
}

func TestP14_2Escapes(t *testing.T) {
	const digits = "0123456789abcdef"
	for a := range 256 {
		for b := range 256 {
			pair := string([]byte{byte(a), byte(b)})
			high, low := strings.IndexByte(digits, byte(a)), strings.IndexByte(digits, byte(b))
			if high >= 0 && low >= 0 {
				c := string([]byte{byte(16*high + low)})
				reads(t, `text "`+"\\"+pair+`"`, api.Module{Texts: []string{c}})
				reads(t, `text "x`+"\\"+pair+pair+`"`, api.Module{Texts: []string{"x" + c + pair}})
			} else {
				refused(t, `text "`+"\\"+pair+`"`, 6, api.ErrAsm)
			}
		}
	}
	wrong(t, `text "@\"`, `text "@\4"`, `text "@\4`, `text "@\`, `text "@\4A"`, `text "@\A4"`, `text "@\FF"`, `text "@\g0"`, `text "@\0g"`, `text "@\n"`, `text "@\\"`, `text "@\""`, `text "@\x41"`)
	wrong(t, "text \"@\\\n41\"", "text \"@\\4\n1\"", `text "\41@\4"`, `text "@\;`, `text "@\4;"`, `text "a\41@\ 41"`, `text "\41@\"`)
	reads(t, `text "\22\5c\0a;\00\ff\7e4"`, api.Module{Texts: []string{"\"\\\n;\x00\xff~4"}})
}

// A string without an end ends with its line, and no remark is in it.
func TestP14_2NoEnd(t *testing.T) {
	wrong(t, `text "a@`, "text \"a@\n", "text \"a@\nend\"", `text "@`, `text "a ; b@`, "text \"a;@\n\"", "text \"a ; remark @\ntext \"b\"", `text ";@`)
	wrong(t, `record "a@`, `record "a" "b ; 1@`, `func "f 0 0@`, "func \"f ; 0 0@\nparams", `text "\22@`, `text "\5c@`)
}

// noStrings are rows of bytes that begin with a " and with no string, the @ ahead of what is wrong; strs are strings.
var (
	noStrings = []string{`"@`, `"a@`, `" @`, `"a b@`, `"a ; b@`, `";@`, `"1@`, `"else@`, `"\22@`, "\"@\r\"", `"@\`, `"@\"`, `"a@\4`, `"@\4"`, `"\41@\4g"`, `"@\zz"`, `"a@\FF" 1`, "\"@\x00\"", "\"@\x01\" ; a", "\"a@\x7f", "\"a@\xff\"", "\"@\t\"", "\"a @\rb"}
	strs      = []string{`""`, `"a"`, `" ; "`, `"\22"`, `"1"`, `"else"`, `"5:1"`, `"pop"`}
)

// Where no string may stand, a whole one is a word, and wrong at its "; what begins with a " and is no string is no word, and told where it
// stops being one.
func TestP14_2WholeStringsInWrongPlaces(t *testing.T) {
	for _, x := range strs {
		for _, s := range withoutStrings() {
			wrong(t, s+"@"+x, s+"@"+x+" ; a\n", s+"@"+x+"\"", s+"@"+x+" \"\\", s+"@"+x+"\nx", s+"@"+x+" x 1")
		}
	}
}

func TestP14_2NoStringsInWrongPlaces(t *testing.T) {
	for _, x := range noStrings {
		for _, s := range withoutStrings() {
			wrong(t, s+x, s+"\t"+x, s+x+"\n", s+x+"\n\"", s+x+"\nend\n")
		}
	}
}

// withoutStrings tells beginnings of texts behind which no string may stand.
func withoutStrings() []string {
	head := "func \"f\" 9 9\n"
	within := head + "params\nresults\n"
	list := []string{"", " ", "grow 1\n", ";\n", inFunc("pop"), "grow ", "grow", "grow 1 ", "grow 1", "fixed ", "fixed 1 ", "fixed 1 2 ", `record "a" "b" `, `record "a""b"`, `text "a" `, `text "a"`,
		`func "f" `, `func "f"`, `func "f" 0 `, `func "f" 0 0 `, head, head + "params ", head + "params 1 ", head + "params 99 ", head + "params\n", head + "params\nresults ", head + "params\nresults 1 ", within, within + "end ", within + "pop\n"}
	for _, s := range []string{"true ", "true", "get ", "get 1 ", "get 70000 ", "text ", "text 0 ", "conv ", "conv 1 ", "conv 9 9 ", "i8 128 ", "switch ", "switch 1 ", "switch 1 5:1 ", "switch 1 5:1", "switch 1 else ", "switch 1 else 1 ", "switch 9 999:-1 else -1 "} {
		list = append(list, within+s)
	}
	return list
}

// A word that may not stand there is told ahead of what begins with a " behind it, and that ahead of what is wrong behind it.
func TestP14_2FaultsInWrongWords(t *testing.T) {
	for _, x := range append([]string{`"`, `"a`, `"\zz"`, "\"\x00\""}, strs...) {
		wrong(t, "@growl "+x, "@growl"+x, "grow @x "+x, "grow @x"+x, "grow 1 @2"+x, "grow @01 "+x, "fixed 1 @- "+x, "text @a "+x, `record "a" @b`+x, `func "f" 0 0 @0 `+x, "@params "+x, "grow@\n"+x, "grow@;"+x)
		wrong(t, inFunc("pop @x "+x), inFunc("@popp "+x), inFunc("switch 1 @x "+x), inFunc("switch 1 else @5:1"+x), inFunc("@i8 128 ; "+x), inFunc("@i8 128\n"+x), inFunc("@x\n"+x), inFunc("@record "+x), "func \"f\" 0 0\n@results "+x)
	}
	wrong(t, `text "@\4"x "\5`, "grow 1\n@x\ntext \"\\\"", "\"@\x00 \x01\"", `"@\4 \5`, "grow 1 \"@\x00\"\ngrow x", `text "a" "@\4" "\5"`, `text "a" @"b" "\5"`)
}

func TestP14_2Numbers(t *testing.T) {
	for _, n := range []int64{0, 1, -1, 9, 10, -10, 100, math.MaxInt32, math.MinInt32, math.MaxInt32 + 1, math.MaxInt64, math.MinInt64, math.MaxInt64 - 1, math.MinInt64 + 1} {
		reads(t, inFunc(fmt.Sprintf("i64 %d", n)), inFuncOf(api.Instr{Op: api.OpI64, A: n}))
		reads(t, inFunc(fmt.Sprintf("switch 3 %d:0 else 1", n)), inFuncOf(api.Instr{Op: api.OpSwitch, A: 3, B: 1, Arms: []api.Arm{{Value: n}}}))
	}
	for _, s := range []string{"00", "01", "007", "-0", "-00", "-01", "-", "--1", "+1", "+0", "+", "1-", "1_0", "_", "0x1", "1e3", "1.0", ".5", "1,", "1a", "a", "a1", "- 1",
		"9223372036854775808", "-9223372036854775809", "10000000000000000000", "18446744073709551616", "99999999999999999999", "-99999999999999999999",
		"09223372036854775807", "\u0661", "\xb2", "1\x00", "1:2", ":", "true", "else", "(1)", "'1'"} {
		wrong(t, inFunc("i64 @"+s), "grow @"+s, "fixed 1 @"+s, "fixed @"+s+" 1", `record "a" "b" @`+s, `func "f" @`+s+" 0", `func "f" 0 @`+s,
			"func \"f\" 0 0\nparams @"+s, "func \"f\" 0 0\nparams 1 @"+s, "func \"f\" 0 0\nparams\nresults 1 @"+s,
			inFunc("field @"+s+" 1"), inFunc("field 1 @"+s), inFunc("switch @"+s+" else 0"), inFunc("switch 1 else @"+s))
	}
	for _, s := range []string{"00:1", "01:1", "-0:1", "1:01", "1:-0", "1:", ":1", ":", "1::1", "1:1:1", "-:1", "1:-", "+1:1", "1:+1", "9223372036854775808:1", "1:9223372036854775808",
		"-9223372036854775809:1", "1", "a", "1;1", "elsewhere", "Else", "else:1", "1:else"} {
		wrong(t, inFunc("switch 3 @"+s+" else 0"), inFunc("switch 3 5:5 @"+s+" else 0"))
	}
}

// What numbers may be is image.Check's to say, where they are no instruction's.
func TestP14_2AnyNumbers(t *testing.T) {
	for _, n := range []int64{0, -1, 6, 15, 17, math.MaxInt64, math.MinInt64, 1 << 32, 1<<32 + 1, 1<<31 + 1} {
		refused(t, fmt.Sprintf("grow %d", n), 0, api.ErrModule)
		refused(t, fmt.Sprintf("fixed %d 1", n), 0, api.ErrModule)
		refused(t, fmt.Sprintf("record \"\" \"\" %d", n), 0, api.ErrModule)
		refused(t, fmt.Sprintf("func \"\" 1 0\nparams %d\nresults\nend", n), 0, api.ErrModule)
		refused(t, fmt.Sprintf("func \"\" 1 0\nparams\nresults %d\nend", n), 0, api.ErrModule)
	}
	for _, n := range []int64{-1, 65537, math.MaxInt64, math.MinInt64, 1 << 32} {
		refused(t, fmt.Sprintf("fixed 1 %d", n), 0, api.ErrModule)
	}
	for _, n := range []int64{-1, math.MinInt64, -1 << 32} {
		refused(t, fmt.Sprintf("func \"\" %d 0\nparams\nresults\nend", n), 0, api.ErrModule)
		refused(t, fmt.Sprintf("func \"\" 0 %d\nparams\nresults\nend", n), 0, api.ErrModule)
	}
	for _, n := range []int64{4097, math.MaxInt64, 1 << 32} {
		refused(t, fmt.Sprintf("func \"\" %d 0\nparams\nresults\nend", n), 0, api.ErrLimit)
		refused(t, fmt.Sprintf("func \"\" 0 %d\nparams\nresults\nend", n), 0, api.ErrLimit)
	}
}

// Each line with a word too few and one too many.
func TestP14_2FewAndMany(t *testing.T) {
	wrong(t, `record@`, `record "a" "b"@`, `record "a" "b" 1 "c"@`, `record "a" @1`, `record "a" "b" 1 @2`, `record "a" "b" @"c" 1`, `record @a`)
	wrong(t, `fixed@`, `fixed 1@`, `fixed 1 2 @3`, `fixed 1 2 @x`, `fixed @"a"`, `grow@`, `grow 1 @1`, `grow 1 @"a"`, `text@`, `text "a" @"b"`, `text "a" @1`, `text @1`, `text @a`)
	wrong(t, `func@`, `func "f"@`, `func "f" 0@`, `func "f" 0 0 @0`, `func "f" 0 0 @params`, `func @f 0 0`, `func @0 0`, "func \"f\" 0@\nparams")
	head := "func \"f\" 0 0\n"
	wrong(t, head+"params @x", head+"params 1 @\"a\"", head+"params 1 2 3 @results", head+"params\nresults @x", head+"params\nresults 1 @end", head+"params\nresults\nend @1", head+"params\nresults\nend @end", head+"params\nresults\nend @\"\"", head+"params\nresults\nend \"@")
	lines, _ := instructions()
	for _, s := range lines {
		words := strings.Fields(s)
		wrong(t, inFunc(s+" @0"), inFunc(s+" @x"), inFunc(s+" @\"\""), inFunc(s+" @else"), inFunc(s+" @1:1"))
		if len(words) > 1 {
			wrong(t, inFunc(strings.Join(words[:len(words)-1], " ")+"@"), inFunc(words[0]+"@"), inFunc(words[0]+" @x"), inFunc(words[0]+" @\"0\""))
		}
	}
}

// Each line outside of a function, behind func, behind params, within a function, and behind one.
func TestP14_2Parts(t *testing.T) {
	lines, _ := instructions()
	outer := []string{`record "a"`, "fixed 1 1", "grow 1", `text "a"`, `func "g" 0 0`}
	head, params, results := "func \"f\" 9 9\n", "params\n", "results\n"
	for _, s := range outer {
		wrong(t, head+"@"+s, head+params+"@"+s)
		if !strings.HasPrefix(s, "text") {
			wrong(t, head+params+results+"@"+s, inFunc("pop", "@"+s))
		}
	}
	wrong(t, inFunc(`text @"a"`), `text @0`)
	for _, s := range append(lines, "end") {
		if !strings.HasPrefix(s, "text") {
			wrong(t, "@"+s, inFunc("pop")+"@"+s)
		}
		wrong(t, head+"@"+s, head+params+"@"+s)
	}
	wrong(t, "@params", "@results", "@params 1", inFunc()+"@params", inFunc()+"@results", inFunc()+"@end")
	wrong(t, head+"@results", head+"@results\nparams", head+"@end", head+params+"@params", head+params+"@end", head+params+results+"@params", head+params+results+"@results",
		head+params+results+"pop\n@results", head+params+results+"pop\n@params")
	wrong(t, head+"@else", inFunc("@else 1"), inFunc("@5:1"), inFunc("@1"), inFunc("@x"), inFunc("@popp"), inFunc("@POP"), inFunc("@\"pop\""), inFunc("@op"), inFunc("@setField 1 1"))
	reads(t, "\n;\nfunc \"f\" 9 9\n\n  ; a\nparams\n\n;\n\t\nresults ; b\n\npop\n\n\nend", inFuncOf(api.Instr{Op: api.OpPop}))
}

// Types, texts and functions stand in any order, and are numbered each by their own lines.
func TestP14_2AnyOrder(t *testing.T) {
	reads(t, `text "a"
func "f" 0 1
params
results
text 1
empty 17
call 1
end
record "P" "g" 17
text "b"
func "g" 0 0
params
results
end
grow 16`, api.Module{
		Types: []api.Type{{Kind: api.Record, Name: "P", Fields: []api.Field{{Name: "g", Type: 17}}}, {Kind: api.Grow, Elem: 16}},
		Texts: []string{"a", "b"},
		Funcs: []api.Routine{{Name: "f", Stack: 1, Code: []byte{6, 1, 0, 40, 17, 0, 50, 1, 0}}, {Name: "g"}},
	})
}

func TestP14_2NoFunctionEnd(t *testing.T) {
	head := "func \"f\" 9 9\n"
	wrong(t, head[:len(head)-1]+"@", head+"@", head+"; a@", head+"\n\n@", head+"params@", head+"params\n@", head+"params\nresults@", head+"params\nresults\n  @", head+"params\nresults\npop@", head+"params\nresults\npop\n;end@", head+"params\nresults\npop;\n\t;\n@")
	wrong(t, inFunc()+head+"params\nresults\n@", head+"params\nresults\npop ; end@")
}

// Each Op: with its numbers, with one that it may not have, with one too many beside that.
func TestP14_2Instructions(t *testing.T) {
	s, m := richFunc()
	reads(t, s, m)
	for _, x := range []string{"i8 128", "i8 -129", "i32 2147483648", "i32 -2147483649", "text -1", "text 65536", "get -1", "get 65536", "put 65536", "call 65536", "new -1", "fill 65536", "empty 65536",
		"at 65536", "setat -1", "len 65536", "push 65536", "drop 65536", "field 65536 0", "field 0 65536", "field -1 0", "field 0 -1", "setfield 65536 0", "setfield 0 65536", "conv 0 1", "conv 1 0", "conv 4 1", "conv 1 4",
		"jump -1", "jump 4294967296", "unless -1", "when 4294967296", "trap -1", "trap 256", "eq 0", "eq 6", "ne 0", "ne 6",
		"switch 0 else 0", "switch 4 else 0", "switch 1 else -1", "switch 1 else 4294967296", "switch 1 128:0 else 0", "switch 1 -129:0 else 0", "switch 2 2147483648:0 else 0", "switch 2 1:-1 else 0", "switch 3 1:4294967296 else 0", "switch 1 1:1 128:0 else 0"} {
		wrong(t, inFunc("@"+x), inFunc("pop", "  @"+x, "popp"), inFunc(x+" @0"), inFunc(x+" @x"))
	}
	for op := api.OpAdd; op <= api.OpGe; op++ {
		if op != api.OpEq && op != api.OpNe {
			name := names[op]
			wrong(t, inFunc("@"+name+" 0"), inFunc("\t@"+name+" 4"), inFunc("@"+name+" 9223372036854775807"), inFunc(name+" 4 @4"))
		}
	}
	wrong(t, inFunc("conv 9@"), inFunc("field -1@"), inFunc("switch 9@"), inFunc("switch 9 999:-1@"), inFunc("switch 9 999:-1 else@"), inFunc("switch 9 else @x"), inFunc("switch 9 @x else 1"), inFunc("conv 9 @x"))
}

func TestP14_2Switch(t *testing.T) {
	reads(t, inFunc("switch 2 else 9"), inFuncOf(api.Instr{Op: api.OpSwitch, A: 2, B: 9}))
	reads(t, inFunc("switch 2 7:0 else 9"), inFuncOf(api.Instr{Op: api.OpSwitch, A: 2, B: 9, Arms: []api.Arm{{Value: 7}}}))
	reads(t, inFunc("switch 2 7:0 7:0 -7:8 else 9;"), inFuncOf(api.Instr{Op: api.OpSwitch, A: 2, B: 9, Arms: []api.Arm{{Value: 7}, {Value: 7}, {Value: -7, To: 8}}}))
	wrong(t, inFunc("switch@"), inFunc("switch @else 1"), inFunc("switch @1:1 else 1"), inFunc("switch 1@"), inFunc("switch 1 5:1@"), inFunc("switch 1 5:1 @9"), inFunc("switch 1 @9"), inFunc("switch 1 else@"), inFunc("switch 1 else 1 @5:1"), inFunc("switch 1 else 1 @else 1"),
		inFunc("switch 1 else @else"), inFunc("switch 1 else @5:1"), inFunc("switch 1 @5 :1 else 1"), inFunc("switch 1 @5: 1 else 1"), inFunc("switch 1 @5 else 1"), inFunc("switch 1 5:1 @: else 1"), inFunc("switch 1 @5:\"1\" else 1"), inFunc("switch 1 @\"5:1\" else 1"), inFunc("switch 1 5:1@\"else\" 1"), inFunc("switch 1 @5:1else 1"), inFunc("switch 1 @else1"), inFunc("switch 1 @ELSE 1"))
}

// The first line with a fault tells it, and all of a text is read ahead of Check.
func TestP14_2FirstOfSeveral(t *testing.T) {
	wrong(t, "grow 99\n@x", "grow 99\ngrow@\nx", "@x\ngrow 99", inFunc("get 99")+"@x", inFunc("@i8 128", "x"), inFunc("@x", "i8 128"), "grow@\ngrow 1 2", "@x y\n", "grow @x y\n", inFunc("add 4 @5", "i8 128"), "func \"\" 0 0\nparams 99\nresults\n@")
	wrong(t, strings.Repeat("grow 1\n", 257)+"@x", "text \""+strings.Repeat("a", 65537)+"\"\n@x")
	refused(t, "func \"f\" 999 0\nparams\nresults\nend\ngrow 99", 0, api.ErrModule)
	refused(t, "grow 99\nfunc \"f\" 999 0\nparams\nresults\nend", 0, api.ErrModule)
	refused(t, "text \""+strings.Repeat("a", 65537)+"\"\n"+inFunc("text 1"), 0, api.ErrLimit)
}

// What image.Check refuses in a text that can be read, and the last that it takes: less lies between head and tail, then more.
func TestP14_2Check(t *testing.T) {
	long := strings.Repeat("a", 65536)
	end := "\nparams\nresults\nend\n"
	begin := "func \"f\" 9 9\nparams\nresults\n"
	for _, x := range []struct {
		head, less, more, tail string
		want                   api.Errno
	}{
		{strings.Repeat("grow 1\n", 256), "", "grow 1", "", api.ErrLimit},
		{strings.Repeat("text \"\"\n", 32768), "", "text \"\"", "", api.ErrLimit},
		{strings.Repeat(inFunc(), 256), "", inFunc(), "", api.ErrLimit},
		{"record \"\"" + strings.Repeat(" \"\" 1", 32), "", " \"\" 1", "", api.ErrLimit},
		{"func \"\" 33 0\nparams" + strings.Repeat(" 1", 32), "", " 1", "\nresults\nend", api.ErrLimit},
		{"func \"\" 0 0\nparams\nresults" + strings.Repeat(" 1", 8), "", " 1", "\nend", api.ErrLimit},
		{begin + strings.Repeat("pop\n", 65536), "", "pop\n", "end", api.ErrLimit},
		{"func \"\" ", "256", "257", " 0" + end, api.ErrLimit},
		{"func \"\" 0 ", "4096", "4097", end, api.ErrLimit},
		{"record \"" + long, "", "a", "\"", api.ErrLimit},
		{"record \"\" \"" + long, "", "a", "\" 1", api.ErrLimit},
		{"text \"" + long, "", "\\00", "\"", api.ErrLimit},
		{"func \"" + long, "", "a", "\" 0 0" + end, api.ErrLimit},
		{strings.Repeat("text \""+long+"\"\n", 31), "", "text \"" + long + "\"\n", "", api.ErrLimit},
		{"grow ", "16", "17", "", api.ErrModule},
		{"fixed 1 ", "65536", "65537", "", api.ErrModule},
		{"record \"\" \"\" ", "5", "6", "", api.ErrModule},
		{"func \"\" ", "1", "0", " 0\nparams 1\nresults\nend", api.ErrModule},
		{"func \"\" 0 0\nparams\nresults ", "1", "16", "\nend", api.ErrModule},
		{begin + "get ", "8", "9", "\nend\n", api.ErrModule},
		{"text \"\"\n" + begin + "text ", "0", "1", "\nend\n", api.ErrModule},
		{begin + "call ", "0", "1", "\nend\n", api.ErrModule},
		{"record \"\" \"\" 1\n" + begin + "field 16 ", "0", "1", "\nend\n", api.ErrModule},
	} {
		refused(t, x.head+x.more+x.tail, 0, x.want)
		if m, at, err := Parse(x.head + x.less + x.tail); at != 0 || err != api.OK || len(m.Types)+len(m.Texts)+len(m.Funcs) == 0 {
			t.Errorf("Parse(%s) = %d, %d", short(x.head+x.less+x.tail), at, err)
		}
	}
}
