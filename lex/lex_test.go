package lex

import (
	"fmt"
	"math"
	"slices"
	"strings"
	"testing"
	"unsafe"

	"trammel/api"
)

var (
	signs    = strings.Fields("( ) { } [ ] , ; : . + - * / % & | ^ ~ ! < > = << >> == != <= >= && ||")
	kept     = strings.Fields("record fn var if else while for switch case default break continue return trap new true false i8 i32 i64 bool bytes len cut byte push pop")
	suffixes = []string{"", "i8", "i32", "i64"}
)

func name(s string, at int) api.Token {
	return api.Token{Kind: api.TokName, Text: s, At: at, End: at + len(s)}
}

func sign(s string, at int) api.Token {
	return api.Token{Kind: api.TokSign, Text: s, At: at, End: at + len(s)}
}

func number(n uint64, suffix string, at, end int) api.Token {
	return api.Token{Kind: api.TokNumber, Text: suffix, N: n, At: at, End: end}
}

func text(s string, at, end int) api.Token {
	return api.Token{Kind: api.TokText, Text: s, At: at, End: end}
}

// short tells a source for a message, cut where it is long.
func short(s string) string {
	if len(s) > 60 {
		return fmt.Sprintf("%q .. %q (%d bytes)", s[:30], s[len(s)-30:], len(s))
	}
	return fmt.Sprintf("%q", s)
}

// holds holds Tokens and Each to tokens that are wanted.
func holds(t *testing.T, s string, want ...api.Token) {
	t.Helper()
	list, at, err := Tokens(s)
	if !slices.Equal(list, want) || at != 0 || err != api.OK {
		t.Errorf("Tokens(%s) = %v, %d, %d, want %v", short(s), list, at, err, want)
	}
	if got := gone(t, s); !slices.Equal(got, want) {
		t.Errorf("Each(%s) = %v, want %v", short(s), got, want)
	}
}

// refuses holds Tokens and Each to an error that is wanted.
func refuses(t *testing.T, s string, place int, wrong api.Errno) {
	t.Helper()
	list, at, err := Tokens(s)
	if len(list) > 0 || at != place || err != wrong {
		t.Errorf("Tokens(%s) = %d tokens, %d, %d, want %d at %d", short(s), len(list), at, err, wrong, place)
	}
	if got := gone(t, s); len(got) > 0 {
		t.Errorf("Each(%s) = %v", short(s), got)
	}
}

// gone goes over Each, and holds the numbers.
func gone(t *testing.T, s string) []api.Token {
	t.Helper()
	var list []api.Token
	for i, x := range Each(s) {
		if i != len(list) {
			t.Fatalf("Each(%s): number %d, want %d", short(s), i, len(list))
		}
		list = append(list, x)
	}
	return list
}

// asPlain holds Tokens to the plain reading.
func asPlain(t *testing.T, s string) {
	t.Helper()
	list, at, err := Tokens(s)
	plain, plainAt, plainErr := plainTokens(s)
	if !slices.Equal(list, plain) || at != plainAt || err != plainErr {
		t.Fatalf("Tokens(%s) = %v, %d, %d, want %v, %d, %d", short(s), list, at, err, plain, plainAt, plainErr)
	}
}

// each calls f with every source of at most so many of these parts.
func each(parts []string, most int, f func(string)) {
	f("")
	rows := []string{""}
	for range most {
		var longer []string
		for _, r := range rows {
			for _, p := range parts {
				longer = append(longer, r+p)
				f(r + p)
			}
		}
		rows = longer
	}
}

func TestP3_1Examples(t *testing.T) {
	holds(t, "")
	holds(t, "// x")
	holds(t, "a1<=12i8 // b", name("a1", 0), sign("<=", 2), number(12, "i8", 4, 8))
	holds(t, "x:=-5;", name("x", 0), sign(":", 1), sign("=", 2), sign("-", 3), number(5, "", 4, 5), sign(";", 5))
	holds(t, `"a\x41\n"`, text("aA\n", 0, 9))
	holds(t, "a===b", name("a", 0), sign("==", 1), sign("=", 3), name("b", 4))
	holds(t, "255i8", number(255, "i8", 0, 5))
	refuses(t, "256i8", 0, api.ErrNumber)
	refuses(t, "18446744073709551616", 0, api.ErrNumber)
	holds(t, "007", number(7, "", 0, 3))
	for _, s := range []string{"12a", "12i8x", "12i9", "1_"} {
		refuses(t, s, 0, api.ErrNumber)
	}
	refuses(t, `"a`, 0, api.ErrString)
	refuses(t, "\"a \n\"", 0, api.ErrString)
	refuses(t, "\"a\n\"", 0, api.ErrString)
	refuses(t, `"\q"`, 1, api.ErrEscape)
	refuses(t, `"\x4"`, 1, api.ErrEscape)
	refuses(t, `"\`, 0, api.ErrString)
	refuses(t, `"\x`, 0, api.ErrString)
	refuses(t, "#", 0, api.ErrChar)
	refuses(t, "a ?", 2, api.ErrChar)
	refuses(t, "$", 0, api.ErrChar)
}

func TestP3_1Source(t *testing.T) {
	holds(t, "fn f(a i8) i8 {\n\treturn a + 1i8; // one more\n}\n",
		name("fn", 0), name("f", 3), sign("(", 4), name("a", 5), name("i8", 7), sign(")", 9), name("i8", 11), sign("{", 14),
		name("return", 17), name("a", 24), sign("+", 26), number(1, "i8", 28, 31), sign(";", 31), sign("}", 45))
}

// TestP3_1EachByte asks of each byte, alone and behind a token, what begins with it.
func TestP3_1EachByte(t *testing.T) {
	for i := range 256 {
		c := string([]byte{byte(i)})
		switch {
		case strings.Contains("\t\n\r ", c):
			holds(t, c)
			holds(t, "a"+c, name("a", 0))
		case strings.Contains("abcdefghijklmnopqrstuvwxyzABCDEFGHIJKLMNOPQRSTUVWXYZ_", c):
			holds(t, c, name(c, 0))
			holds(t, "a"+c, name("a"+c, 0))
			refuses(t, "; 1"+c, 2, api.ErrNumber)
		case i >= '0' && i <= '9':
			holds(t, c, number(uint64(i-'0'), "", 0, 1))
			holds(t, "a"+c, name("a"+c, 0))
			refuses(t, ";1i8"+c, 1, api.ErrNumber)
		case c == `"`:
			refuses(t, c, 0, api.ErrString)
			refuses(t, "a"+c, 1, api.ErrString)
		case slices.Contains(signs, c):
			holds(t, c, sign(c, 0))
			holds(t, "a"+c, name("a", 0), sign(c, 1))
			holds(t, "12"+c, number(12, "", 0, 2), sign(c, 2))
		default:
			refuses(t, c, 0, api.ErrChar)
			refuses(t, "a "+c, 2, api.ErrChar)
			refuses(t, "12"+c, 2, api.ErrChar)
			refuses(t, "12i8"+c, 4, api.ErrChar)
		}
	}
}

func TestP3_1Names(t *testing.T) {
	for _, s := range append([]string{"_", "__", "_1", "a_9Z", "A", "z0", "While", "i9", "i80", "fnx"}, kept...) {
		holds(t, s, name(s, 0))
		holds(t, " "+s+" \t"+s, name(s, 1), name(s, 3+len(s)))
	}
	for _, s := range []string{"a\xc3", "a\xc3\xa9", "a\x80b", "a$", "a\x00"} {
		refuses(t, s, 1, api.ErrChar)
	}
}

// TestP3_1Numbers asks of the greatest number of each suffix, and of one above it.
func TestP3_1Numbers(t *testing.T) {
	for _, x := range []struct {
		digits, suffix string
		n              uint64
		above          string
	}{
		{"18446744073709551615", "", math.MaxUint64, "18446744073709551616"},
		{"255", "i8", math.MaxUint8, "256"},
		{"4294967295", "i32", math.MaxUint32, "4294967296"},
		{"18446744073709551615", "i64", math.MaxUint64, "18446744073709551616"},
	} {
		noughts := strings.Repeat("0", 100)
		for _, ahead := range []string{"", "0", noughts} {
			s := ahead + x.digits + x.suffix
			holds(t, s, number(x.n, x.suffix, 0, len(s)))
			holds(t, " "+s+"+", number(x.n, x.suffix, 1, 1+len(s)), sign("+", 1+len(s)))
			refuses(t, "; "+ahead+x.above+x.suffix, 2, api.ErrNumber)
		}
		for _, digits := range []string{"99999999999999999999", "18446744073709551617", "20000000000000000000", "184467440737095516150", x.digits + "0", "1" + noughts} {
			refuses(t, digits+x.suffix, 0, api.ErrNumber)
		}
		holds(t, "0"+x.suffix, number(0, x.suffix, 0, 1+len(x.suffix)))
		holds(t, noughts+x.suffix, number(0, x.suffix, 0, 100+len(x.suffix)))
		holds(t, "128"+x.suffix, number(128, x.suffix, 0, 3+len(x.suffix)))
	}
	holds(t, "256", number(256, "", 0, 3))
	holds(t, "256i32", number(256, "i32", 0, 6))
	holds(t, "4294967296i64", number(1<<32, "i64", 0, 13))
	s := strings.Repeat("0", api.MaxSource-1) + "9"
	holds(t, s, number(9, "", 0, api.MaxSource))
}

func TestP3_1BehindNumbers(t *testing.T) {
	for _, suffix := range suffixes {
		for _, behind := range []string{"a", "z", "A", "Z", "_", "i", "i6", "i9", "i3", "i16", "I8", "x1", "i8i", "i8_", "i80", "i320", "i641", "i8i8", "e5", "xff"} {
			refuses(t, "a 7"+suffix+behind, 2, api.ErrNumber)
		}
		at := 1 + len(suffix)
		for _, s := range []string{".", "<", "-", ";"} {
			holds(t, "7"+suffix+s+"a", number(7, suffix, 0, at), sign(s, at), name("a", at+1))
		}
		holds(t, "7"+suffix+`"a"`, number(7, suffix, 0, at), text("a", at, at+3))
		holds(t, "7"+suffix+" a", number(7, suffix, 0, at), name("a", at+1))
		holds(t, "7"+suffix+"//a", number(7, suffix, 0, at))
		refuses(t, "7"+suffix+"\x80", at, api.ErrChar)
	}
	for _, suffix := range suffixes[1:] {
		refuses(t, "7"+suffix+"0", 0, api.ErrNumber)
		holds(t, "7 "+suffix, number(7, "", 0, 1), name(suffix, 2))
	}
}

func TestP3_1Signs(t *testing.T) {
	for _, s := range signs {
		holds(t, s, sign(s, 0))
		holds(t, "a"+s+"b", name("a", 0), sign(s, 1), name("b", 1+len(s)))
	}
	holds(t, "<<<", sign("<<", 0), sign("<", 2))
	holds(t, "<<=", sign("<<", 0), sign("=", 2))
	holds(t, "<=<", sign("<=", 0), sign("<", 2))
	holds(t, "!==", sign("!=", 0), sign("=", 2))
	holds(t, "=!=", sign("=", 0), sign("!=", 1))
	holds(t, "&&&&&", sign("&&", 0), sign("&&", 2), sign("&", 4))
	holds(t, "|||", sign("||", 0), sign("|", 2))
	holds(t, ">>>=", sign(">>", 0), sign(">=", 2))
	holds(t, "--", sign("-", 0), sign("-", 1))
	holds(t, "/ /", sign("/", 0), sign("/", 2))
	holds(t, "+=", sign("+", 0), sign("=", 1))
}

func TestP3_1Blanks(t *testing.T) {
	holds(t, "\t\n\r a\t\n\r b\r", name("a", 4), name("b", 9))
	holds(t, "//")
	holds(t, "///")
	holds(t, "//\n")
	holds(t, "a//b\n//c\n\nd//", name("a", 0), name("d", 10))
	holds(t, "a // b \r c \x00\x7f\xff \" # 1x \\\nd", name("a", 0), name("d", strings.LastIndex("a // b \r c \x00\x7f\xff \" # 1x \\\nd", "d")))
	holds(t, "/*", sign("/", 0), sign("*", 1))
	holds(t, "*//", sign("*", 0))
	holds(t, `"//"a`, text("//", 0, 4), name("a", 4))
	holds(t, `"\"//"//"`, text(`"//`, 0, 6))
	holds(t, "a/b", name("a", 0), sign("/", 1), name("b", 2))
	for _, c := range []string{"\v", "\f", "\x00", "\x1f", "\x7f", "\xa0", "\xc2\x85", "\ufeff", "\u2028"} {
		refuses(t, " "+c, 1, api.ErrChar)
	}
}

// TestP3_1TextBytes asks of each byte whether it stands for itself in a text.
func TestP3_1TextBytes(t *testing.T) {
	for i := range 256 {
		c := string([]byte{byte(i)})
		switch {
		case i < 32 || i == 127:
			refuses(t, `a "b`+c+`"`, 2, api.ErrString)
			refuses(t, `a "`+c, 2, api.ErrString)
		case c == `"`:
			refuses(t, `"b""`, 3, api.ErrString)
		case c == `\`:
			refuses(t, `"b\"`, 0, api.ErrString)
		default:
			holds(t, `"b`+c+`"`, text("b"+c, 0, 4))
		}
	}
	holds(t, `""`, text("", 0, 2))
	holds(t, `"a""b"`, text("a", 0, 3), text("b", 3, 6))
	holds(t, `a"b"c`, name("a", 0), text("b", 1, 4), name("c", 4))
}

// TestP3_1Escapes asks of each byte what it does behind a backslash, with the text's end behind it and with the source's.
func TestP3_1Escapes(t *testing.T) {
	pieces := map[byte]string{'"': `"`, '\\': `\`, 'n': "\n", 't': "\t", 'r': "\r"}
	for i := range 256 {
		c := string([]byte{byte(i)})
		stands, ok := pieces[byte(i)]
		switch {
		case ok:
			holds(t, `"b\`+c+`"`, text("b"+stands, 0, 5))
			refuses(t, `;"b\`+c, 1, api.ErrString)
		case i < 32 || i == 127:
			refuses(t, `;"b\`+c+`"`, 1, api.ErrString)
		case c == "x":
			refuses(t, `;"b\x"`, 3, api.ErrEscape)
		default:
			refuses(t, `;"b\`+c+`"`, 3, api.ErrEscape)
			refuses(t, `;"b\`+c, 3, api.ErrEscape)
		}
	}
}

func TestP3_1HexEscapes(t *testing.T) {
	for i := range 256 {
		want := string([]byte{byte(i)})
		holds(t, fmt.Sprintf(`"\x%02x"`, i), text(want, 0, 6))
		holds(t, fmt.Sprintf(`"\x%02X"`, i), text(want, 0, 6))
		c := want
		switch {
		case strings.Contains("0123456789abcdefABCDEF", c):
			holds(t, `"\x`+c+`a7"`, text(string([]byte{hexValue(c)<<4 | 10})+"7", 0, 7))
			holds(t, `"\xa`+c+`"`, text(string([]byte{10<<4 | hexValue(c)}), 0, 6))
			refuses(t, `; "\x`+c, 2, api.ErrString)
			refuses(t, `; "\x0`+c, 2, api.ErrString)
			refuses(t, `; "\x`+c+`"`, 3, api.ErrEscape)
		case i < 32 || i == 127:
			refuses(t, `; "\x`+c+`1"`, 2, api.ErrString)
			refuses(t, `; "\x1`+c+`"`, 2, api.ErrString)
		default:
			refuses(t, `; "\x`+c+`1"`, 3, api.ErrEscape)
			refuses(t, `; "\x1`+c+`"`, 3, api.ErrEscape)
			refuses(t, `; "\x`+c, 3, api.ErrEscape)
			refuses(t, `; "\x1`+c, 3, api.ErrEscape)
		}
	}
}

func hexValue(digit string) byte {
	return byte(strings.Index("0123456789abcdef", strings.ToLower(digit)))
}

// TestP3_1WhichComesFirst has two things wrong in each source.
func TestP3_1WhichComesFirst(t *testing.T) {
	refuses(t, "a # 1x", 2, api.ErrChar)
	refuses(t, "a 1x #", 2, api.ErrNumber)
	refuses(t, `a "\q" #`, 3, api.ErrEscape)
	refuses(t, `a # "\q"`, 2, api.ErrChar)
	refuses(t, `"a \q`, 3, api.ErrEscape)
	refuses(t, "\"a\\q\n\"", 2, api.ErrEscape)
	refuses(t, "\"a\n\\q\"", 0, api.ErrString)
	refuses(t, "\"\\n\\x41\\x4g\\q\"", 7, api.ErrEscape)
	refuses(t, "\"\\xg\n", 1, api.ErrEscape)
	refuses(t, "\"\\x\ng\"", 0, api.ErrString)
	refuses(t, "300i8x", 0, api.ErrNumber)
	refuses(t, "1x2y", 0, api.ErrNumber)
	refuses(t, "12\x8012a", 2, api.ErrChar)
}

func TestP3_1MaxSource(t *testing.T) {
	most := api.MaxSource
	holds(t, strings.Repeat(" ", most))
	holds(t, "//"+strings.Repeat("#", most-2))
	long := strings.Repeat("a", most)
	holds(t, long, name(long, 0))
	holds(t, `"`+long[2:]+`"`, text(long[2:], 0, most))
	refuses(t, strings.Repeat(" ", most-1)+"#", most-1, api.ErrChar)
	refuses(t, `"`+long[1:], 0, api.ErrString)
	for _, s := range []string{" ", "a", "#", ";", "1", `"`, "//", "1x", `"\q"`} {
		refuses(t, strings.Repeat(s, most)[:most]+" ", 0, api.ErrLimit)
	}
	refuses(t, strings.Repeat(" ", most+1), 0, api.ErrLimit)
	refuses(t, strings.Repeat("; ", most), 0, api.ErrLimit)
	refuses(t, strings.Repeat(" ", 16*most), 0, api.ErrLimit)
}

func TestP3_1MaxTokens(t *testing.T) {
	full := strings.Repeat(";", api.MaxTokens)
	for _, behind := range []string{"", " ", "// x", "\n\t//", "//\n "} {
		list, at, err := Tokens(full + behind)
		if len(list) != api.MaxTokens || at != 0 || err != api.OK {
			t.Errorf("MaxTokens and %q: %d tokens, %d, %d", behind, len(list), at, err)
		}
		if n := len(gone(t, full+behind)); n != api.MaxTokens {
			t.Errorf("Each over MaxTokens and %q: %d tokens", behind, n)
		}
	}
	for _, between := range []string{"", " ", "// x\n", "\n\t//\n "} {
		for _, more := range []string{";", "a", "1", `"a"`, "#", "?", "1x", "256i8", `"\q"`, `"a`, "\"a\n", `"`, `\`, "\x00", "\xff", "-", "<="} {
			refuses(t, full+between+more, api.MaxTokens+len(between), api.ErrLimit)
			refuses(t, full+between+more+" ; #", api.MaxTokens+len(between), api.ErrLimit)
		}
	}
	refuses(t, full[1:]+"#;", api.MaxTokens-1, api.ErrChar)
	refuses(t, full[1:]+`"\q";`, api.MaxTokens, api.ErrEscape)
	refuses(t, strings.Repeat("; ", api.MaxTokens-1)+";;", 2*api.MaxTokens-1, api.ErrLimit)
}

// shortSources calls f with every source of few parts that meddle with one another.
func shortSources(f func(string)) {
	for _, x := range []struct {
		parts []string
		most  int
	}{
		{[]string{`"`, `\`, "x", "n", "4", "g", "\n", "\x7f"}, 5},
		{[]string{"1", "2", "i", "8", "i8", "i32", "i64", "25", "a", "_", ";", " "}, 4},
		{[]string{"<", ">", "=", "&", "|", "!", "/", "\n", "a"}, 5},
		{[]string{"a", "A", "_", "0", "9", "i8", `"`, `\`, "x", "n", "f", "/", "\n", "\t", "\r", " ", "<", "=", "&", "!", ";", "#", "\x00", "\x1f", "\x7f", "\x80", "\xff"}, 3},
	} {
		each(x.parts, x.most, f)
	}
}

func TestP3_1AllShortSources(t *testing.T) {
	shortSources(func(s string) { asPlain(t, s) })
}

// TestP3_1KeepsNothing: no text of a token lies in the memory of the source.
func TestP3_1KeepsNothing(t *testing.T) {
	s := strings.Repeat(`name 12i8 "text" <= ; `, 9)
	from := uintptr(unsafe.Pointer(unsafe.StringData(s)))
	list, _, _ := Tokens(s)
	for _, x := range list {
		at := uintptr(unsafe.Pointer(unsafe.StringData(x.Text)))
		if len(x.Text) > 0 && at >= from && at < from+uintptr(len(s)) {
			t.Fatalf("token %v shares the source's memory", x)
		}
	}
}

// TestP3_2Numbers: Each tells what Tokens tells, with numbers from 0 on; over none, if there is an error, wherever it stands.
func TestP3_2Numbers(t *testing.T) {
	shortSources(func(s string) {
		list, _, err := Tokens(s)
		got := gone(t, s)
		if !slices.Equal(got, list) || err != api.OK && len(got) > 0 {
			t.Fatalf("Each(%s) = %v, want %v", short(s), got, list)
		}
	})
	for _, last := range []string{"#", "1x", `"a`, `"\q"`} {
		if got := gone(t, "a b c "+last); len(got) > 0 {
			t.Errorf("Each of three names and %s = %v", last, got)
		}
	}
}

func TestP3_2LeftEarlyAndAgain(t *testing.T) {
	s := "a + 1 ; b"
	list, _, _ := Tokens(s)
	row := Each(s)
	for stop := range len(list) + 1 {
		var part []api.Token
		for i, x := range row {
			if i == stop {
				break
			}
			part = append(part, x)
		}
		if !slices.Equal(part, list[:stop]) {
			t.Errorf("left at %d: %v", stop, part)
		}
	}
	for range 3 {
		var whole []api.Token
		for _, x := range row {
			whole = append(whole, x)
		}
		if !slices.Equal(whole, list) {
			t.Errorf("gone over again: %v", whole)
		}
	}
}

// TestP3_2WithinItself goes over one row while another turn of it is under way.
func TestP3_2WithinItself(t *testing.T) {
	row := Each("a b c")
	var pairs []string
	for _, x := range row {
		for _, y := range row {
			pairs = append(pairs, x.Text+y.Text)
		}
	}
	if got := strings.Join(pairs, " "); got != "aa ab ac ba bb bc ca cb cc" {
		t.Errorf("pairs: %s", got)
	}
}

// TestP3_2AnswersOnce: once told to stop, Each tells nothing more.
func TestP3_2AnswersOnce(t *testing.T) {
	calls := 0
	Each("a b c d")(func(int, api.Token) bool {
		calls++
		return calls < 2
	})
	if calls != 2 {
		t.Errorf("told %d tokens, want 2", calls)
	}
}

func TestP3_3Quote(t *testing.T) {
	for i := range 256 {
		c := string([]byte{byte(i)})
		want := c
		switch {
		case i == 34:
			want = `\"`
		case i == 92:
			want = `\\`
		case i == 10:
			want = `\n`
		case i == 9:
			want = `\t`
		case i == 13:
			want = `\r`
		case i < 32 || i == 127:
			want = fmt.Sprintf(`\x%02x`, i)
		}
		if got := Quote(c); got != `"`+want+`"` {
			t.Errorf("Quote(%q) = %s", c, got)
		}
		if got := Quote("a" + c + "b" + c); got != `"a`+want+`b`+want+`"` {
			t.Errorf("Quote of %q between others = %s", c, got)
		}
	}
	for s, want := range map[string]string{
		"": `""`, "a\"\n\x01\xc8": "\"a\\\"\\n\\x01\xc8\"", "\x7f\x1f\x00": `"\x7f\x1f\x00"`, "é€": `"é€"`, `\n`: `"\\n"`, "a b//": `"a b//"`,
	} {
		if got := Quote(s); got != want {
			t.Errorf("Quote(%q) = %s, want %s", s, got, want)
		}
	}
	if got := Quote(strings.Repeat("\x00", 1<<20)); len(got) != 4<<20+2 {
		t.Errorf("Quote of a long text has %d bytes", len(got))
	}
}

func TestP3_3NameAndKept(t *testing.T) {
	if len(kept) != 27 {
		t.Fatalf("%d kept words", len(kept))
	}
	for _, s := range kept {
		if Name(s) || !Kept(s) {
			t.Errorf("Name, Kept(%q) = %v, %v", s, Name(s), Kept(s))
		}
		for _, near := range []string{strings.ToUpper(s), s + "_", "_" + s, s + "0", s + s, strings.ToUpper(s[:1]) + s[1:]} {
			if !Name(near) || Kept(near) {
				t.Errorf("Name, Kept(%q) = %v, %v", near, Name(near), Kept(near))
			}
		}
		for _, no := range []string{" " + s, s + " ", s + "\n", s + "//", s + "\x00", s + ";", "1" + s, s + "\xc3"} {
			if Name(no) || Kept(no) {
				t.Errorf("Name, Kept(%q) = %v, %v", no, Name(no), Kept(no))
			}
		}
	}
	for _, s := range []string{"_", "_a1", "a", "Z", "While", "x_1", "i", "i9", "i16", "byt", "recor", "string", "func", "main", strings.Repeat("a", api.MaxSource+1)} {
		if !Name(s) || Kept(s) {
			t.Errorf("Name, Kept(%s) = %v, %v", short(s), Name(s), Kept(s))
		}
	}
	for _, s := range append([]string{"", "1a", "1", "9_", "a b", "a-b", "a.b", `"a"`, "é", "aé", "\x00", "a\x00", "$", "@a", "`a", "[a", "{a", "a`", "/", "a//"}, signs...) {
		if Name(s) || Kept(s) {
			t.Errorf("Name, Kept(%q) = %v, %v", s, Name(s), Kept(s))
		}
	}
}

// TestP3_3NothingElseIsKept asks of all words of at most four small letters, and of words that other languages keep.
func TestP3_3NothingElseIsKept(t *testing.T) {
	free := func(s string) {
		if keeps := slices.Contains(kept, s); s != "" && (Kept(s) != keeps || Name(s) == keeps) {
			t.Fatalf("Name, Kept(%q) = %v, %v", s, Name(s), Kept(s))
		}
	}
	each(strings.Split("abcdefghijklmnopqrstuvwxyz", ""), 4, free)
	for _, s := range strings.Fields("chan const defer fallthrough func goto import interface package range select struct string error label match print until float int8 int16 int32 int64 uint8 u8 u16 u32 u64 i1 i16 i128 f32 f64") {
		free(s)
	}
}

// TestP3_3NameIsAToken: a name is just what Tokens tells as one name of the whole, but a kept word.
func TestP3_3NameIsAToken(t *testing.T) {
	shortSources(func(s string) {
		list, _, _ := Tokens(s)
		want := len(list) == 1 && list[0] == name(s, 0) && !slices.Contains(kept, s)
		if Name(s) != want || Kept(s) != slices.Contains(kept, s) {
			t.Fatalf("Name, Kept(%q) = %v, %v", s, Name(s), Kept(s))
		}
	})
}

// follows holds a source to P3.4, if it has tokens.
func follows(t *testing.T, s string) {
	t.Helper()
	list, _, err := Tokens(s)
	if err != api.OK {
		return
	}
	last := 0
	for _, x := range list {
		if x.At < last || x.End <= x.At || x.End > len(s) || !allBlank(s[last:x.At]) {
			t.Fatalf("Tokens(%s): %v behind the place %d", short(s), x, last)
		}
		last = x.End
		alone, _, err := Tokens(s[x.At:x.End])
		want := x
		want.At, want.End = 0, x.End-x.At
		if err != api.OK || len(alone) != 1 || alone[0] != want {
			t.Fatalf("Tokens(%s): alone %v is %v, %d", short(s), x, alone, err)
		}
	}
	if !allBlank(s[last:]) {
		t.Fatalf("Tokens(%s): behind the last there is %q", short(s), s[last:])
	}
}

func allBlank(s string) bool { return blanksAhead.FindString(s) == s }

// spread holds a source to what it is with a blank put at each place between two tokens.
func spread(t *testing.T, s, blank string) {
	t.Helper()
	list, _, err := Tokens(s)
	if err != api.OK {
		return
	}
	var wide strings.Builder
	var want []api.Token
	last := 0
	for i, x := range list {
		wide.WriteString(s[last:x.At])
		if i > 0 {
			wide.WriteString(blank)
		}
		last = x.End
		x.At, x.End = wide.Len(), wide.Len()+x.End-x.At
		want = append(want, x)
		wide.WriteString(s[list[i].At:last])
	}
	wide.WriteString(s[last:])
	got, at, err := Tokens(wide.String())
	if err != api.OK || !slices.Equal(got, want) {
		t.Fatalf("%s spread to %s: %v, %d, %d, want %v", short(s), short(wide.String()), got, at, err, want)
	}
}

func TestP3_4ShortSources(t *testing.T) {
	blanks := []string{" ", "\n", "\t\r", " //\n", "\n// \"#\n"}
	n := 0
	shortSources(func(s string) {
		follows(t, s)
		spread(t, s, blanks[n%len(blanks)])
		n++
	})
}

// TestP3_4EachPair puts blanks between every two tokens of a row that has all kinds of them.
func TestP3_4EachPair(t *testing.T) {
	tokens := slices.Concat(signs, kept, []string{"a", "_9", "0", "007", "255i8", "12i64", `""`, `"a\"\x00"`, "\"\xff\""})
	for _, a := range tokens {
		for _, b := range tokens {
			s := a + " " + b
			follows(t, s)
			for _, blank := range []string{" ", "\t", "\r", "\n", " // x\n", "\n//\n"} {
				spread(t, s, blank)
			}
		}
	}
}

func TestP3_4QuoteReadAgain(t *testing.T) {
	again := func(s string) {
		q := Quote(s)
		list, at, err := Tokens(q)
		if err != api.OK || len(list) != 1 || list[0] != text(s, 0, len(q)) {
			t.Fatalf("Tokens(Quote(%s)) = %v, %d, %d", short(s), list, at, err)
		}
	}
	again("")
	for a := range 256 {
		again(string([]byte{byte(a)}))
		for b := range 256 {
			again(string([]byte{byte(a), byte(b)}))
			again(string([]byte{byte(a), byte(b), '4', '1'}))
		}
	}
	again(strings.Repeat("a", api.MaxSource-2))
	again(strings.Repeat("\n", (api.MaxSource-2)/2))
	refuses(t, Quote(strings.Repeat("a", api.MaxSource-1)), 0, api.ErrLimit)
	shortSources(again)
}

func FuzzTokens(f *testing.F) {
	for _, s := range []string{"", "a1<=12i8 // b", `"a\x41\n"`, "x:=-5;", `"\x4"`, "256i8", "12i9", "a # b", "fn f() { }\n", "\"\\x\n", "/// \n/", "18446744073709551616"} {
		f.Add(s)
	}
	f.Fuzz(func(t *testing.T, s string) {
		asPlain(t, s)
		follows(t, s)
		spread(t, s, " //\n")
		if q := Quote(s); len(q) <= api.MaxSource {
			holds(t, q, text(s, 0, len(q)))
		}
	})
}
