package lower

import "testing"

func TestP16_2Ifs(t *testing.T) {
	bodies(t, map[string]string{
		"if o { }":                  "get 3; unless L0; jump L0; L0:",
		"if o { } else { }":         "get 3; unless L0; jump L0; L0:",
		"if true { none(); }":       "true; unless L0; call 1; jump L0; L0:",
		"if o { none(); }":          "get 3; unless L0; call 1; jump L0; L0:",
		"if o { } else { none(); }": "get 3; unless L0; jump L1; L0:; call 1; L1:",
		"if o { a = 1i8; } else { a = 2i8; } a = 3i8;":             "get 3; unless L0; i8 1; put 0; jump L1; L0:; i8 2; put 0; L1:; i8 3; put 0",
		"if o { return; } else { trap 1; }":                        "get 3; unless L0; return; jump L1; L0:; trap 1; L1:",
		"if o { if !o { trap 1; } } else { trap 2; }":              "get 3; unless L1; get 3; flip; unless L0; trap 1; jump L0; L0:; jump L2; L1:; trap 2; L2:",
		"if o { trap 1; } else if !o { trap 2; } else { trap 3; }": "get 3; unless L0; trap 1; jump L2; L0:; get 3; flip; unless L1; trap 2; jump L2; L1:; trap 3; L2:",
		"if o { trap 1; } else if !o { trap 2; }":                  "get 3; unless L0; trap 1; jump L1; L0:; get 3; flip; unless L1; trap 2; jump L1; L1:",
	})
}

func TestP16_2Loops(t *testing.T) {
	bodies(t, map[string]string{
		"while true { }":                                   "L0:; jump L0",
		"while true { none(); }":                           "L0:; call 1; jump L0",
		"while (true) { none(); }":                         "L0:; call 1; jump L0",
		"while false { }":                                  "L0:; false; unless L1; jump L0; L1:",
		"while !true { }":                                  "L0:; true; flip; unless L1; jump L0; L1:",
		"while true && true { }":                           "L0:; true; dup; unless L1; pop; true; L1:; unless L2; jump L0; L2:",
		"while o { none(); } trap 1;":                      "L0:; get 3; unless L1; call 1; jump L0; L1:; trap 1",
		"for ; ; { }":                                      "L0:; jump L0",
		"for ; true; none() { }":                           "L0:; call 1; jump L0",
		"for c = 0; c < 9; c = c + 1 { }":                  "i64 0; put 2; L0:; get 2; i64 9; lt 3; unless L1; get 2; i64 1; add 3; put 2; jump L0; L1:",
		"for var i = 0; ; { c = i; }":                      "i64 0; put 8; L0:; get 8; put 2; jump L0",
		"for var x, y = two(); y; x, y = two() { c = x; }": "call 3; put 9; put 8; L0:; get 9; unless L1; get 8; put 2; call 3; put 9; put 8; jump L0; L1:",
		"for ; o; push(l, 1) { l[0] = 2; }":                "L0:; get 3; unless L1; get 6; i64 0; i64 2; setat 19; get 6; i64 1; push 19; jump L0; L1:",
		"for ; o; l[0] = 1 { }":                            "L0:; get 3; unless L1; get 6; i64 0; i64 1; setat 19; jump L0; L1:",
		"for ; o; p.x = 1 { }":                             "L0:; get 3; unless L1; get 5; i64 1; setfield 16 0; jump L0; L1:",
		"while true { break; } trap 1;":                    "L0:; jump L1; jump L0; L1:; trap 1",
		"while o { continue; }":                            "L0:; get 3; unless L2; jump L1; L1:; jump L0; L2:",
		"for ; ; none() { if o { continue; } two(); }":     "L0:; get 3; unless L1; jump L2; jump L1; L1:; call 3; pop; pop; L2:; call 1; jump L0",
		"while o { while !o { none(); } }":                 "L0:; get 3; unless L3; L1:; get 3; flip; unless L2; call 1; jump L1; L2:; jump L0; L3:",
		"while o { while !o { break; } break; }":           "L0:; get 3; unless L3; L1:; get 3; flip; unless L2; jump L2; jump L1; L2:; jump L3; jump L0; L3:",
		"A: while true { while o { break A; } } trap 1;":   "L0:; get 3; unless L1; jump L2; jump L0; L1:; jump L0; L2:; trap 1",
		"A: for ; ; none() { B: for ; ; two() { continue A; continue B; continue; } }": "L0:; jump L2; jump L1; jump L1; L1:; call 3; pop; pop; jump L0; L2:; call 1; jump L0",
	})
}

func TestP16_2Switches(t *testing.T) {
	bodies(t, map[string]string{
		"switch c { }":                                  "get 2; switch 3 L0; L0:",
		"switch a { }":                                  "get 0; switch 1 L0; L0:",
		"switch b { default: none(); }":                 "get 1; switch 2 L0; L0:; call 1",
		"switch c { case 1: }":                          "get 2; switch 3 1:L0 L1; L0:; jump L1; L1:",
		"switch c { case 1: none(); }":                  "get 2; switch 3 1:L0 L1; L0:; call 1; jump L1; L1:",
		"switch c { case 1: none(); default: }":         "get 2; switch 3 1:L0 L1; L0:; call 1; jump L1; L1:",
		"switch c { case 1: none(); default: trap 2; }": "get 2; switch 3 1:L0 L1; L0:; call 1; jump L2; L1:; trap 2; L2:",
		"switch c { case 5, -3, 2: none(); }":           "get 2; switch 3 -3:L0 2:L0 5:L0 L1; L0:; call 1; jump L1; L1:",
		"switch c { case 9, 1: trap 1; case 4, -4: trap 2; case 0: trap 3; }":                      "get 2; switch 3 -4:L1 0:L2 1:L0 4:L1 9:L0 L3; L0:; trap 1; jump L3; L1:; trap 2; jump L3; L2:; trap 3; jump L3; L3:",
		"switch a { case 255, 127, 128, 0: trap 1; case 1i8: }":                                    "get 0; switch 1 -128:L0 -1:L0 0:L0 1:L1 127:L0 L2; L0:; trap 1; jump L2; L1:; jump L2; L2:",
		"switch b { case 2147483648, 2147483647, 4294967295i32: trap 1; }":                         "get 1; switch 2 -2147483648:L0 -1:L0 2147483647:L0 L1; L0:; trap 1; jump L1; L1:",
		"switch c { case 18446744073709551615, 9223372036854775807, 9223372036854775808, 0: }":     "get 2; switch 3 -9223372036854775808:L0 -1:L0 0:L0 9223372036854775807:L0 L1; L0:; jump L1; L1:",
		"switch one(a, t) { case 1: break; default: break; }":                                      "get 0; get 4; call 2; switch 3 1:L0 L1; L0:; jump L2; jump L2; L1:; jump L2; L2:",
		"switch c { case 1: { } case 2: }":                                                         "get 2; switch 3 1:L0 2:L1 L2; L0:; jump L2; L1:; jump L2; L2:",
		"switch c { case 2: switch a { case 1: trap 1; } default: switch b { default: trap 2; } }": "get 2; switch 3 2:L0 L3; L0:; get 0; switch 1 1:L1 L2; L1:; trap 1; jump L2; L2:; jump L5; L3:; get 1; switch 2 L4; L4:; trap 2; L5:",
	})
}

// Breaks and nexts lead to the turn of their number, through any others.
func TestP16_2Leaps(t *testing.T) {
	bodies(t, map[string]string{
		"while o { switch c { case 1: continue; default: break; } }":                                           "L0:; get 3; unless L4; get 2; switch 3 1:L1 L2; L1:; jump L3; jump L3; L2:; jump L3; L3:; jump L0; L4:",
		"A: while o { B: switch c { case 1: while true { break A; break B; continue A; break; continue; } } }": "L0:; get 3; unless L5; get 2; switch 3 1:L1 L4; L1:; jump L5; jump L4; jump L4; jump L3; jump L2; L2:; jump L1; L3:; jump L4; L4:; jump L0; L5:",
		"A: switch c { case 1: B: switch a { case 2: break A; default: break B; } trap 1; }":                   "get 2; switch 3 1:L0 L4; L0:; get 0; switch 1 2:L1 L2; L1:; jump L4; jump L3; L2:; jump L3; L3:; trap 1; jump L4; L4:",
	})
}
