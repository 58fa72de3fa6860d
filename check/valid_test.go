package check

import (
	"fmt"
	"math"
	"slices"
	"strings"
	"testing"

	"trammel/api"
)

// bodied tells the program of head with such a body of f, which has the slots 8 (i64), 9 (bool), 10 (i8) and 11 (E) more.
func bodied(t *testing.T, terms string) api.Program {
	t.Helper()
	p := made(t, head+"}")
	p.Funcs[4].Slots = append(p.Funcs[4].Slots, api.I64, api.Bool, api.I8, 17)
	p.Funcs[4].Body.Kids = termsOf(t, terms)
	return p
}

// valid holds such bodies to be taken, or not, by Valid and by its second reading.
func valid(t *testing.T, want api.Errno, bodies ...string) {
	t.Helper()
	for _, s := range bodies {
		validProgram(t, s, bodied(t, s), want)
	}
}

func validProgram(t *testing.T, s string, p api.Program, want api.Errno) {
	t.Helper()
	if wrong := Valid(p); wrong != want || plainValid(p) != want {
		t.Errorf("%s: %d, by the second reading %d, want %d", s, wrong, plainValid(p), want)
	}
}

// Programs of sources made at will, and what becomes of them when one thing is changed, and then another: Valid tells of each what
// the second reading does.
func TestP8_2AtWill(t *testing.T) {
	met := map[api.Errno]int{}
	m := newAuthor(820, 0)
	for range 1000 {
		s := m.program()
		p := made(t, s)
		validProgram(t, s, p, api.OK)
		for range 8 {
			other := copied(p)
			for range 1 + m.Intn(2) {
				m.spoil(&other)
				wrong := Valid(other)
				if wrong != plainValid(other) {
					t.Fatalf("%s\n%s\n%d, want %d", s, tellProgram(other), wrong, plainValid(other))
				}
				met[wrong]++
			}
		}
	}
	if met[api.OK] < 1000 || met[api.ErrTree] < 1000 {
		t.Error(met)
	}
}

func TestP8_2Heads(t *testing.T) {
	validProgram(t, "nothing", api.Program{}, api.OK)
	block := api.Term{Op: api.SBlock}
	validProgram(t, "one function", api.Program{Funcs: []api.Func{{Name: "f", Body: block}}}, api.OK)
	ints := func(count, typ int) []int { return slices.Repeat([]int{typ}, count) }
	for name, x := range map[string]struct {
		change func(p *api.Program, f *api.Func)
		want   api.Errno
	}{
		"as it is":                       {func(p *api.Program, f *api.Func) {}, api.OK},
		"nodes":                          {func(p *api.Program, f *api.Func) { f.Nodes = math.MaxInt }, api.OK},
		"no nodes":                       {func(p *api.Program, f *api.Func) { f.Nodes = 0 }, api.OK},
		"nodes below 0":                  {func(p *api.Program, f *api.Func) { f.Nodes = -1 }, api.ErrTree},
		"least nodes":                    {func(p *api.Program, f *api.Func) { f.Nodes = math.MinInt }, api.ErrTree},
		"another name":                   {func(p *api.Program, f *api.Func) { f.Name = "_9" }, api.OK},
		"no name":                        {func(p *api.Program, f *api.Func) { f.Name = "" }, api.ErrTree},
		"a kept word":                    {func(p *api.Program, f *api.Func) { f.Name = "push" }, api.ErrTree},
		"no word":                        {func(p *api.Program, f *api.Func) { f.Name = "a-b" }, api.ErrTree},
		"a name twice":                   {func(p *api.Program, f *api.Func) { f.Name = "one" }, api.ErrTree},
		"a record's name":                {func(p *api.Program, f *api.Func) { f.Name = "P" }, api.OK},
		"a slot more":                    {func(p *api.Program, f *api.Func) { f.Slots = append(f.Slots, 19) }, api.OK},
		"a slot of no type":              {func(p *api.Program, f *api.Func) { f.Slots = append(f.Slots, 20) }, api.ErrTree},
		"a slot of type 0":               {func(p *api.Program, f *api.Func) { f.Slots = append(f.Slots, 0) }, api.ErrTree},
		"a slot of type 6":               {func(p *api.Program, f *api.Func) { f.Slots = append(f.Slots, 6) }, api.ErrTree},
		"a slot of type 15":              {func(p *api.Program, f *api.Func) { f.Slots = append(f.Slots, 15) }, api.ErrTree},
		"a slot of a type below 0":       {func(p *api.Program, f *api.Func) { f.Slots = append(f.Slots, -1) }, api.ErrTree},
		"a slot of a huge type":          {func(p *api.Program, f *api.Func) { f.Slots = append(f.Slots, math.MaxInt) }, api.ErrTree},
		"fewer slots than parameters":    {func(p *api.Program, f *api.Func) { f.Slots = f.Slots[:7] }, api.ErrTree},
		"no slots":                       {func(p *api.Program, f *api.Func) { f.Slots = nil }, api.ErrTree},
		"another slot than a parameter":  {func(p *api.Program, f *api.Func) { f.Slots[7] = 18 }, api.ErrTree},
		"another parameter than a slot":  {func(p *api.Program, f *api.Func) { f.Params[0] = 2 }, api.ErrTree},
		"a parameter less":               {func(p *api.Program, f *api.Func) { f.Params = f.Params[:7] }, api.OK},
		"256 slots":                      {func(p *api.Program, f *api.Func) { f.Slots = append(f.Slots, ints(248, 1)...) }, api.OK},
		"257 slots":                      {func(p *api.Program, f *api.Func) { f.Slots = append(f.Slots, ints(249, 1)...) }, api.ErrTree},
		"32 parameters":                  {func(p *api.Program, f *api.Func) { f.Params, f.Slots = ints(32, 4), ints(40, 4) }, api.OK},
		"33 parameters":                  {func(p *api.Program, f *api.Func) { f.Params, f.Slots = ints(33, 4), ints(40, 4) }, api.ErrTree},
		"8 results":                      {func(p *api.Program, f *api.Func) { f.Results = ints(8, 16) }, api.OK},
		"9 results":                      {func(p *api.Program, f *api.Func) { f.Results = ints(9, 16) }, api.ErrTree},
		"a result of no type":            {func(p *api.Program, f *api.Func) { f.Results = []int{20} }, api.ErrTree},
		"a result of type 0":             {func(p *api.Program, f *api.Func) { f.Results = []int{0} }, api.ErrTree},
		"a parameter of no type":         {func(p *api.Program, f *api.Func) { f.Params[0], f.Slots[0] = 7, 7 }, api.ErrTree},
		"a body that is a statement":     {func(p *api.Program, f *api.Func) { f.Body = api.Term{Op: api.STrap} }, api.ErrTree},
		"a body that is a value":         {func(p *api.Program, f *api.Func) { f.Body = api.Term{Op: api.XTrue, Type: 4} }, api.ErrTree},
		"a body with a number":           {func(p *api.Program, f *api.Func) { f.Body.N = 1 }, api.ErrTree},
		"a body with a type":             {func(p *api.Program, f *api.Func) { f.Body.Type = 4 }, api.ErrTree},
		"a body with a text":             {func(p *api.Program, f *api.Func) { f.Body.Text = "a" }, api.ErrTree},
		"no body":                        {func(p *api.Program, f *api.Func) { f.Body = api.Term{} }, api.ErrTree},
		"a type that may not be":         {func(p *api.Program, f *api.Func) { p.Types[3].Len = 0 }, api.ErrTree},
		"an array that is there already": {func(p *api.Program, f *api.Func) { p.Types = append(p.Types, p.Types[2]) }, api.ErrTree},
		"more than 256 types":            {func(p *api.Program, f *api.Func) { p.Types = append(p.Types, make([]api.Type, 253)...) }, api.ErrTree},
		"a type less":                    {func(p *api.Program, f *api.Func) { p.Types = p.Types[:3] }, api.ErrTree},
		"another function's name":        {func(p *api.Program, f *api.Func) { p.Funcs[0].Name = "f" }, api.ErrTree},
		"another function's body":        {func(p *api.Program, f *api.Func) { p.Funcs[2].Body.Kids[0].Kids = nil }, api.ErrTree},
	} {
		p := made(t, head+"}")
		x.change(&p, &p.Funcs[4])
		validProgram(t, name, p, x.want)
	}
	many := api.Program{}
	for _, name := range strings.Fields(row(256, " ", "f#")) {
		many.Funcs = append(many.Funcs, api.Func{Name: name, Body: block})
	}
	validProgram(t, "256 functions", many, api.OK)
	many.Funcs = append(many.Funcs, api.Func{Name: "more", Body: block})
	validProgram(t, "257 functions", many, api.ErrTree)
}

// Which slots are known where.
func TestP8_2Known(t *testing.T) {
	valid(t, api.OK, "SPut#5(XName:3#5)", "SPut#8(XInt:3)", "SPut#8(XInt:3) SPut#5(XName:3#8)", "SPut#8(XInt:3) SPut#8(XName:3#8)", "SPut#8(XInt:3) SBlock(SBlock(SPut#5(XName:3#8)))",
		"SPut#10(XName:1) SPut#8(XInt:3) SPut#5(XName:3#8) SPut(XName:1#10)", // slots in any order
		"SPuts(SSlot#10 SSlot#9 XCall#2) SPut(XName:1#10) SPut#4(XName:4#9)",
		"SPut#8(XInt:3) SLoop(XLt:4(XName:3#8 XInt:3) SBlock(SPut#8(XName:3#8)) SBlock(SPut#8(XName:3#8)))",
		"SPut#8(XInt:3) SIf(XEq:4(XName:3#8 XName:3#8) SBlock(SPut#5(XName:3#8)) SBlock(SPut#5(XName:3#8))) SReturn(XName:3#8)",
		"SPut#8(XInt:3) SSwitch(XName:3#8 SCase(XInt:3 SBlock(SPut#5(XName:3#8))) SBlock(SPut#5(XName:3#8)))",
		"STrap SPut#8(XInt:3) SReturn(XName:3#8)", "SReturn(XInt:3) SPut#8(XInt:3) SPut#5(XName:3#8)",
		"SBlock(SPut#8(XInt:3) SPut#5(XName:3#8)) SBlock(SPut#8(XInt:3) SPut#5(XName:3#8)) SPut#8(XInt:3) SPut#5(XName:3#8)",
		"SPut#8(XInt:3) SBlock(SPut#8(XInt:3)) SPut#5(XName:3#8)", // what is known stays so behind a block in which it is put to again
		"SLoop(XTrue:4 SBlock SBlock(SPut#8(XInt:3)))")
	valid(t, api.ErrTree, "SPut#5(XName:3#8)", "SPut#8(XName:3#8)", "SPut#5(XName:3#8) SPut#8(XInt:3)", "SBlock(SPut#8(XInt:3)) SPut#5(XName:3#8)", "SPut#9(XTrue:4) SPut#5(XName:3#8)",
		"SIf(XTrue:4 SBlock(SPut#8(XInt:3)) SBlock(SPut#5(XName:3#8)))", "SIf(XTrue:4 SBlock(SPut#8(XInt:3)) SBlock(SPut#8(XInt:3))) SPut#5(XName:3#8)", "SIf(XName:4#9 SBlock SBlock)",
		"SLoop(XTrue:4 SBlock(SPut#8(XInt:3)) SBlock(SPut#5(XName:3#8)))", "SLoop(XTrue:4 SBlock SBlock(SPut#8(XInt:3))) SPut#5(XName:3#8)", "SLoop(XTrue:4 SBlock(SPut#5(XName:3#8)) SBlock(SPut#8(XInt:3)))", "SLoop(XName:4#9 SBlock(SPut#9(XTrue:4)) SBlock)",
		"SLoop(XTrue:4 SBlock SBlock(SPut#8(XName:3#8)))",
		"SSwitch(XInt:3 SCase(XInt:3 SBlock(SPut#8(XInt:3))) SCase(XInt:3#1 SBlock(SPut#5(XName:3#8))) SBlock)", "SSwitch(XInt:3 SCase(XInt:3 SBlock(SPut#8(XInt:3))) SBlock(SPut#5(XName:3#8)))", "SSwitch(XName:3#8 SBlock(SPut#8(XInt:3)))",
		"SPut#8(XInt:3) SBlock(SPut#9(XTrue:4)) SPut#4(XName:4#9)", "SPut#9(XCall:4#3(XName:1#10 XText:5))", "SPuts(SSlot#10 SSlot#9 XCall#2) SPut#5(XName:3#8)",
		"SReturn(XName:3#8)", "SDo(XCall:4#3(XName:1#10 XText:5))")
	// what an SPuts puts to is known behind it, not in its call
	p := made(t, "fn g(a i8) (i8, bool) { var x, y = g(a); x, y = g(x); return x, y; }")
	validProgram(t, "as it is", p, api.OK)
	other := copied(p)
	other.Funcs[0].Body.Kids[0].Kids[2].Kids[0].N = 1
	validProgram(t, "an SPuts' own slot", other, api.ErrTree)
	other = copied(p)
	other.Funcs[0].Body.Kids = other.Funcs[0].Body.Kids[1:]
	validProgram(t, "without the first one", other, api.ErrTree)
	other = copied(p)
	other.Funcs[0].Body.Kids[1].Kids[0].N, other.Funcs[0].Body.Kids[1].Kids[1].N = 0, 2
	validProgram(t, "to a parameter", other, api.OK)
}

func TestP8_2Turns(t *testing.T) {
	loop := func(n, inner string) string { return "SLoop" + n + "(XTrue:4 SBlock" + inner + " SBlock)" }
	choice := func(n, inner string) string {
		return "SSwitch" + n + "(XInt:3 SCase(XInt:3 SBlock" + inner + ") SBlock)"
	}
	valid(t, api.OK, loop("", "")+" "+loop("#1", ""), loop("", "("+loop("#1", "")+" "+choice("#2", "")+")")+" "+choice("#3", "("+loop("#4", "")+")"),
		loop("", "(SBreak)"), loop("", "(SNext)"), choice("", "(SBreak)"), loop("", "("+choice("#1", "(SBreak SBreak#1 SNext)")+" SBreak)"), loop("", "("+loop("#1", "(SNext SNext#1 SBreak SBreak#1)")+")"),
		loop("", "(SIf(XTrue:4 SBlock(SBreak) SBlock(SNext)) SBlock(SNext))"), "SSwitch(XInt:3 SBlock(SBreak))")
	valid(t, api.ErrTree, loop("#1", ""), loop("", "")+" "+loop("", ""), loop("", "")+" "+loop("#2", ""), loop("#1", "")+" "+loop("", ""), loop("#1", "("+loop("", "")+")"), loop("", "("+loop("", "")+")"), choice("#1", ""), choice("", "("+choice("#2", "")+")"), loop("#-1", ""),
		"SSwitch(XInt:3 SCase(XInt:3 SBlock("+loop("#2", "")+")) SBlock("+loop("#1", "")+"))",
		"SBreak", "SNext", "SBreak#-1", loop("", "(SBreak#1)"), loop("", "(SBreak#-1)"), loop("", "(SNext#1)"), loop("", "(SNext#-9223372036854775808)"), loop("", "(SBreak#9223372036854775807)"), loop("", "")+" SBreak", loop("", "")+" SNext", loop("", "")+" "+loop("#1", "(SBreak)"), loop("", "")+" "+loop("#1", "(SNext)"),
		choice("", "(SNext)"), loop("", "("+choice("#1", "(SNext#1)")+")"), loop("", "("+choice("#1", "")+" SBreak#1)"), loop("", "(SBreak(SBreak))"), loop("", "(SNext(XTrue:4))"), loop("", "(SBreak:3)"), "SIf(XTrue:4 SBlock(SBreak) SBlock)")
	// the third part is none of the loop's statements
	third := func(s string) string { return "SLoop(XTrue:4 SBlock SBlock" + s + ")" }
	valid(t, api.OK, third(""), third("(SPut#5(XInt:3))"), third("(SPuts(SSlot SSlot#4 XCall#2))"), third("(SField(XName:16#3 XName:1))"), third("(SAt(XName:19#7 XInt:3 XName:1))"), third("(SDo(XCall))"), third("(SPush(XName:18#1 XInt:3))"))
	valid(t, api.ErrTree, third("(SBreak)"), third("(SNext)"), third("(SBlock)"), third("(STrap)"), third("(SReturn(XInt:3))"), third("(SIf(XTrue:4 SBlock SBlock))"), third("(SLoop#1(XTrue:4 SBlock SBlock))"), third("(SSwitch#1(XInt:3 SBlock))"), third("(SDo(XCall) SDo(XCall))"), third("(XTrue:4)"),
		third("(SPut#5(XInt:3) SPut#5(XInt:3))"), "SLoop(XTrue:4 SBlock)", "SLoop(XTrue:4 SBlock SBlock SBlock)", "SLoop(XTrue:4 SBlock SDo(XCall))", "SLoop(XTrue:4 SDo(XCall) SBlock)", "SLoop(SBlock SBlock SBlock)", "SLoop", "SLoop(XInt:3 SBlock SBlock)", "SLoop(XTrue:4 SBlock SBlock#1)")
}

func TestP8_2Switches(t *testing.T) {
	valid(t, api.OK, "SSwitch(XInt:3 SBlock)", "SSwitch(XName:1 SCase(XInt:1#127 XInt:1#-128 SBlock) SCase(XInt:1 SBlock(STrap)) SBlock(STrap))", "SSwitch(XName:2#6 SCase(XInt:2#2147483647 XInt:2#-2147483648 SBlock) SBlock)",
		"SSwitch(XName:3#5 SCase(XInt:3#9223372036854775807 XInt:3#-9223372036854775808 SBlock) SBlock)")
	valid(t, api.ErrTree, "SSwitch", "SSwitch(XInt:3)", "SSwitch(SBlock)", "SSwitch(XTrue:4 SBlock)", "SSwitch(XText:5 SBlock)", "SSwitch(XInt:3 SCase(XInt:3 SBlock))", "SSwitch(XInt:3 SBlock SCase(XInt:3 SBlock))", "SSwitch(XInt:3 SBlock SBlock)", "SSwitch(XInt:3 SCase(SBlock) SBlock)", "SSwitch(XInt:3 SCase(XInt:3) SBlock)", "SSwitch(XInt:3 SCase SBlock)",
		"SSwitch(XInt:3 SCase(XInt:1 SBlock) SBlock)", "SSwitch(XInt:3 SCase(XInt:3 XInt:3 SBlock) SBlock)", "SSwitch(XInt:3 SCase(XInt:3#1 SBlock) SCase(XInt:3 XInt:3#1 SBlock) SBlock)", "SSwitch(XName:1 SCase(XInt:1#128 SBlock) SBlock)", "SSwitch(XName:1 SCase(XInt:1#-129 SBlock) SBlock)",
		"SSwitch(XInt:3 SCase(XName:3#5 SBlock) SBlock)", "SSwitch(XInt:3 SCase(XNeg:3(XInt:3#1) SBlock) SBlock)", "SSwitch(XInt:3 SCase(XInt:3 SBlock SBlock) SBlock)", "SSwitch(XInt:3 SCase(XInt:3 STrap) SBlock)", "SSwitch(XInt:3 SCase#1(XInt:3 SBlock) SBlock)", "SSwitch(XInt:3 SCase:3(XInt:3 SBlock) SBlock)", "SSwitch(XInt:3 SCase\"a\"(XInt:3 SBlock) SBlock)", "SSwitch(XInt:3 SCase(XInt:3(XInt:3) SBlock) SBlock)", "SSwitch(XCall SBlock)", "SCase(XInt:3 SBlock)")
}

func TestP8_2Statements(t *testing.T) {
	valid(t, api.OK, "", "SBlock SBlock(SBlock)", "SPut(XInt:1#-128)", "SField(XName:16#3 XName:1)", "SField#1(XName:16#3 XName:16#3)", "SAt(XName:18#1 XInt:3 XInt:3)", "SAt(XName:19#7 XInt:3 XName:1)", "SDo(XCall)", "SDo(XCall:3#1)", "SDo(XCall#2)", "SPush(XName:18#1 XInt:3)", "SIf(XTrue:4 SBlock SBlock)", "SReturn(XInt:3)", "STrap", "STrap#255",
		"SPuts(SSlot SSlot#4 XCall#2)", "SPuts(SSlot#10 SSlot#9 XCall#2)")
	valid(t, api.ErrTree, "SPut", "SPut(XInt:3)", "SPut#8(XInt:1)", "SPut#-1(XInt:3)", "SPut#12(XInt:3)", "SPut#11(XInt:3)", "SPut#9223372036854775807(XInt:3)", "SPut#5(XInt:3 XInt:3)", "SPut#5(STrap)", "SPut#5(XCall)", "SPut:3#5(XInt:3)",
		"SPuts", "SPuts(XCall)", "SPuts(SSlot#5 XCall:3#1)", "SPuts(SSlot#4 SSlot XCall#2)", "SPuts(SSlot XCall#2)", "SPuts(SSlot SSlot#4 SSlot#4 XCall#2)", "SPuts(XCall#2 SSlot SSlot#4)", "SPuts(SSlot SSlot#12 XCall#2)", "SPuts(SSlot#-1 SSlot#4 XCall#2)", "SPuts(SSlot:1 SSlot#4 XCall#2)", "SPuts(SSlot(XTrue:4) SSlot#4 XCall#2)", "SPuts(XName:1 SSlot#4 XCall#2)", "SPuts(SSlot SSlot#4 XCall#5)", "SPuts#1(SSlot SSlot#4 XCall#2)", "SPuts(SSlot SSlot#4)", "SPuts(SSlot\"a\" SSlot#4 XCall#2)", "SSlot",
		"SField(XName:16#3)", "SField(XName:16#3 XInt:3)", "SField#2(XName:16#3 XName:1)", "SField#-1(XName:16#3 XName:1)", "SField(XName:1 XName:1)", "SField(XNew:17 XName:1)", "SField(XName:16#3 XName:1 XName:1)", "SField(XName:18#1 XInt:3)",
		"SAt(XName:5#2 XInt:3 XInt:2)", "SAt(XName:18#1 XInt:1 XInt:3)", "SAt(XName:18#1 XInt:3 XInt:1)", "SAt(XName:18#1 XInt:3)", "SAt#1(XName:18#1 XInt:3 XInt:3)", "SAt(XName:16#3 XInt:3 XName:1)", "SAt(XName:18#1 XInt:3 XInt:3 XInt:3)",
		"SDo", "SDo(XInt:3)", "SDo(XCall XCall)", "SDo(XNew:17)", "SDo(XCall#5)", "SDo(XCall#-1)", "SDo(SDo(XCall))", "SDo#1(XCall)", "SPush(XName:19#7 XName:1)", "SPush(XName:18#1 XName:1)", "SPush(XName:18#1)", "SPush(XName:18#1 XInt:3 XInt:3)", "SPush:18(XName:18#1 XInt:3)", "SPush", "SPush(XName:5#2 XInt:2)",
		"SIf(XTrue:4 SBlock)", "SIf(XInt:3 SBlock SBlock)", "SIf(XTrue:4 SBlock SIf(XTrue:4 SBlock SBlock))", "SIf(XTrue:4 STrap SBlock)", "SIf(XTrue:4 SBlock SBlock SBlock)", "SIf(SBlock SBlock SBlock)", "SIf#1(XTrue:4 SBlock SBlock)",
		"SReturn", "SReturn(XInt:1)", "SReturn(XInt:3 XInt:3)", "SReturn(SBlock)", "SReturn#1(XInt:3)", "SReturn(XCall#2)", "STrap#256", "STrap#-1", "STrap(XInt:3)", "STrap:1", "STrap\"a\"",
		"SBlock#1", "SBlock:1", "SBlock\"a\"", "SBlock(XTrue:4)", "XTrue:4", "XCall", "54(XName:18#1 XInt:3)", "0", "17", "39", "58", "59", "78", "255")
}

func TestP8_2Values(t *testing.T) {
	good := []string{
		"XInt:1#127", "XInt:1#-128", "XInt:2#2147483647", "XInt:2#-2147483648", "XInt:3#9223372036854775807", "XInt:3#-9223372036854775808", "XText:5", "XText:5\"a b\"", "XTrue:4", "XFalse:4",
		"XName:1", "XName:18#1", "XCall:3#1", "XCall:4#3(XName:1 XText:5)", "XConv:1(XInt:3)", "XConv:3(XInt:3)", "XNew:16(XName:1 XName:16#3)", "XNew:17", "XNew:18", "XNew:19(XName:1)", "XField:1(XName:16#3)", "XField:16#1(XName:16#3)",
		"XAt:3(XName:18#1 XInt:3)", "XAt:1(XName:19#7 XInt:3)", "XAt:2(XName:5#2 XInt:3)", "XLen:3(XName:5#2)", "XLen:3(XName:18#1)", "XCut:5(XName:5#2 XInt:3 XInt:3)", "XByte:5(XInt:2)", "XPop:3(XName:18#1)",
		"XNeg:1(XName:1)", "XNot:2(XInt:2)", "XFlip:4(XTrue:4)", "XAdd:5(XText:5 XText:5)", "XAdd:1(XName:1 XName:1)", "XShr:3(XInt:3 XInt:3)", "XEq:4(XTrue:4 XTrue:4)", "XNe:4(XText:5 XText:5)", "XGe:4(XName:1 XName:1)", "XBoth:4(XTrue:4 XTrue:4)", "XEither:4(XTrue:4 XFalse:4)",
	}
	for _, s := range good {
		v := termsOf(t, s)[0]
		valid(t, api.OK, put(v))
		for typ := range 21 { // of no other type, but for what may be of several
			other := v
			other.Type = typ
			if typ != v.Type && v.Op != api.XInt && v.Op != api.XConv && v.Op != api.XNew {
				valid(t, api.ErrTree, put(other))
			}
		}
		other := v
		other.Text += "x"
		valid(t, map[bool]api.Errno{true: api.OK, false: api.ErrTree}[v.Op == api.XText], put(other))
		if !strings.Contains("XInt XName XCall XField", opNames[v.Op]) {
			other = v
			other.N = 1
			valid(t, api.ErrTree, put(other))
		}
		other = v
		other.Kids = append(slices.Clone(v.Kids), api.Term{Op: api.XTrue, Type: api.Bool})
		valid(t, api.ErrTree, put(other))
		if len(v.Kids) > 0 {
			other.Kids = v.Kids[1:]
			valid(t, api.ErrTree, put(other))
			other.Kids = append([]api.Term{{Op: api.SBlock}}, v.Kids[1:]...)
			valid(t, api.ErrTree, put(other))
			other.Kids = append([]api.Term{{Op: api.XCall, N: 2}}, v.Kids[1:]...)
			valid(t, api.ErrTree, put(other))
		}
	}
	for _, s := range []string{"XInt:1#128", "XInt:1#-129", "XInt:2#2147483648", "XInt:2#-2147483649", "XInt:4", "XInt:5", "XInt:16", "XInt", "XInt:-1", "XName:1#-1", "XName:17#12", "XName:3#1", "XCall:3#5", "XCall:3#-1", "XCall", "XCall#2", "XCall:4#3(XText:5 XName:1)", "XCall:4#3(XName:1)",
		"XConv:4(XInt:3)", "XConv:1(XTrue:4)", "XConv(XInt:3)", "XConv:5(XInt:2)", "XNew:3(XInt:3)", "XNew:5", "XNew:4", "XNew:20", "XNew", "XNew:16(XName:16#3 XName:1)", "XField:1#2(XName:16#3)", "XField:1#-1(XName:16#3)", "XField:16(XName:16#3)", "XField:1(XName:1)", "XField:1(XNew:17)",
		"XAt:3(XName:18#1 XInt:2)", "XAt:1(XName:5#2 XInt:3)", "XAt:1(XName:16#3 XInt:3)", "XLen:3(XName:16#3)", "XPop:1(XName:19#7)", "XAdd:4(XTrue:4 XTrue:4)", "XAdd:3(XInt:3 XInt:1)", "XSub:5(XText:5 XText:5)", "XEq:4(XName:16#3 XName:16#3)", "XLt:4(XTrue:4 XTrue:4)", "XEq:4(XInt:3 XInt:1)",
		"58:4(XTrue:4 XTrue:4)", "59:4(XTrue:4)", "54:18(XName:18#1 XInt:3)", "78:4(XTrue:4 XTrue:4)", "30:4", "XBoth:4(XTrue:4)", "XEither:4"} {
		v := termsOf(t, s)[0]
		valid(t, api.ErrTree, put(v), tell(api.Term{Op: api.SReturn, Kids: []api.Term{v}}))
	}
}

// put writes a statement that takes a value of its type, whatever that is.
func put(v api.Term) string {
	slot := map[int]string{api.I8: "", api.I32: "#6", api.I64: "#5", api.Bool: "#4", api.Text: "#2", 16: "#3", 17: "#11", 18: "#1", 19: "#7"}[v.Type]
	return "SPut" + slot + "(" + tell(v) + ")"
}

// Bodies of as many terms as there may be, and of one more; and such as hold themselves.
func TestP8_2Limit(t *testing.T) {
	wide := func(terms int) api.Term {
		return api.Term{Op: api.SBlock, Kids: slices.Repeat([]api.Term{{Op: api.STrap}}, terms-1)}
	}
	deep := func(terms int) api.Term {
		body := api.Term{Op: api.SBlock}
		for range terms - 1 {
			body = api.Term{Op: api.SBlock, Kids: []api.Term{body}}
		}
		return body
	}
	flips := func(terms int) api.Term {
		v := api.Term{Op: api.XTrue, Type: api.Bool}
		for range terms - 3 {
			v = api.Term{Op: api.XFlip, Type: api.Bool, Kids: []api.Term{v}}
		}
		return api.Term{Op: api.SBlock, Kids: []api.Term{{Op: api.SPut, Kids: []api.Term{v}}}}
	}
	for name, form := range map[string]func(int) api.Term{"wide": wide, "deep": deep, "flips": flips} {
		f := api.Func{Name: "f", Slots: []int{api.Bool}, Body: form(api.MaxNodes)}
		validProgram(t, name, api.Program{Funcs: []api.Func{f}}, api.OK)
		more := api.Func{Name: "g", Slots: []int{api.Bool}, Body: form(api.MaxNodes + 1)}
		validProgram(t, name+" and one more", api.Program{Funcs: []api.Func{more}}, api.ErrLimit)
		validProgram(t, name+" behind another", api.Program{Funcs: []api.Func{f, more}}, api.ErrLimit)
		more.Name = ""
		validProgram(t, name+" in what may not be", api.Program{Types: make([]api.Type, 300), Funcs: []api.Func{{}, {}, more}}, api.ErrLimit) // ahead of all else
	}
	// what the terms are does not matter
	validProgram(t, "no terms", api.Program{Funcs: []api.Func{{Name: "f", Body: api.Term{Kids: make([]api.Term, api.MaxNodes)}}}}, api.ErrLimit)
	validProgram(t, "no terms", api.Program{Funcs: []api.Func{{Name: "f", Body: api.Term{Kids: make([]api.Term, api.MaxNodes-1)}}}}, api.ErrTree)
	ring := make([]api.Term, 2)
	ring[0] = api.Term{Op: api.SBlock, Kids: ring}
	if wrong := Valid(api.Program{Funcs: []api.Func{{Name: "f", Body: ring[0]}}}); wrong != api.ErrLimit {
		t.Errorf("a body that holds itself: %d", wrong)
	}
	often := api.Term{Op: api.SBlock}
	for range 60 {
		often.Kids = []api.Term{often, often, often}
	}
	if wrong := Valid(api.Program{Funcs: []api.Func{{Name: "f", Body: often}}}); wrong != api.ErrLimit {
		t.Errorf("a body that holds one part very often: %d", wrong)
	}
	// one list may stand in a body several times
	shared := []api.Term{{Op: api.SBlock, Kids: termsOf(t, "STrap#1 STrap#2")}}
	body := api.Term{Op: api.SBlock, Kids: []api.Term{{Op: api.SBlock, Kids: shared}, {Op: api.SBlock, Kids: shared}}}
	validProgram(t, "a list twice", api.Program{Funcs: []api.Func{{Name: "f", Body: body}, {Name: "g", Body: body}}}, api.OK)
}

// Empty lists and none are the same, and nothing of what is handed in is changed, what lies behind its lists' ends included.
func TestP8_2Memory(t *testing.T) {
	m := newAuthor(821, 0)
	for range 200 {
		s := m.program()
		p := made(t, s)
		for range 2 {
			other := copied(p)
			emptied(&other)
			ahead := fmt.Sprint(fullProgram(other))
			if got, want := Valid(other), Valid(p); got != want || !Same(other, other) {
				t.Fatalf("%s\n%d, want %d", tellProgram(p), got, want)
			}
			if fmt.Sprint(fullProgram(other)) != ahead {
				t.Fatalf("%s\nchanged", tellProgram(p))
			}
			m.spoil(&p)
		}
	}
}

// emptied puts empty lists in the place of none, and lays something behind the ends of all lists.
func emptied(p *api.Program) {
	p.Types = roomy(p.Types, api.Type{Kind: 77})
	p.Funcs = roomy(p.Funcs, api.Func{Name: "behind"})
	for i := range p.Types {
		p.Types[i].Fields = roomy(p.Types[i].Fields, api.Field{Name: "behind"})
	}
	for i := range p.Funcs {
		f := &p.Funcs[i]
		f.Params, f.Results, f.Slots = roomy(f.Params, 77), roomy(f.Results, 77), roomy(f.Slots, 77)
		eachTerm(&f.Body, func(t *api.Term) { t.Kids = roomy(t.Kids, api.Term{Op: 77}) })
	}
}

// roomy tells a list that is not nil, with something behind its end.
func roomy[T any](l []T, behind T) []T {
	return append(slices.Clone(l), behind)[:len(l)]
}

// fullProgram tells a program, with what lies behind the ends of its lists.
func fullProgram(p api.Program) []any {
	list := []any{len(p.Types), len(p.Funcs)}
	for _, t := range p.Types[:cap(p.Types)] {
		list = append(list, t, t.Fields[:cap(t.Fields)])
	}
	for _, f := range p.Funcs[:cap(p.Funcs)] {
		list = append(list, f.Name, f.Nodes, f.Params[:cap(f.Params)], f.Results[:cap(f.Results)], f.Slots[:cap(f.Slots)], fullTerm(f.Body))
	}
	return list
}

func fullTerm(t api.Term) []any {
	list := []any{t.Op, t.Type, t.N, t.Text, len(t.Kids)}
	for _, k := range t.Kids[:cap(t.Kids)] {
		list = append(list, fullTerm(k))
	}
	return list
}
