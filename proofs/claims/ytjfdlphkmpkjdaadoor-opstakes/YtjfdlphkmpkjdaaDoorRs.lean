/-
  CONTRACTS of the document's within, is.
-/
import Derived.Test.YtjfdlphkmpkjdaaDoorRq
import Derived.Test.YtjfdlphkmpkjdaaDoorJqm
namespace Go.Proofs.YtjfdlphkmpkjdaaDoor
open Go.RowKit
set_option linter.unusedVariables false

theorem rwithin_as (k : Nm) (n : Int) (w : World) : Calls Tryd.prog 40 #[.agg (partC k).toArray, .int .i64 n] w fun e w' => e = .returned (.bool (k.may n)) ∧ Below w.heap.size w w' := by
  have oX := Own.new w #[.int .i64 (k.sz : Int), .int .i64 k.lo, .int .i64 k.hi, .bool k.sg] 96
  have hb0 := new_below w (.cells #[.int .i64 (k.sz : Int), .int .i64 k.lo, .int .i64 k.hi, .bool k.sg] 96)
  unfold partC
  by_cases h : k.lo ≤ n
  · rw [may_hi k n h]
    generalize (k.sz : Int) = z at *
    generalize k.lo = lo at *
    generalize k.hi = hi at *
    generalize k.sg = sg at *
    go_enter Tryd.func40, Tryd.ntmps40
    go_upto_region 1 with fail
    generalize w.alloc (.cells #[.int .i64 z, .int .i64 lo, .int .i64 hi, .bool sg] 96) = w1 at *
    obtain ⟨x0, x1, x2, x3, xf⟩ := own4 oX
    go_wp2
    go_ret
    exact ⟨rfl, hb0⟩
  · rw [may_lo k n h]
    generalize (k.sz : Int) = z at *
    generalize k.lo = lo at *
    generalize k.hi = hi at *
    generalize k.sg = sg at *
    go_enter Tryd.func40, Tryd.ntmps40
    go_upto_region 1 with fail
    generalize w.alloc (.cells #[.int .i64 z, .int .i64 lo, .int .i64 hi, .bool sg] 96) = w1 at *
    obtain ⟨x0, x1, x2, x3, xf⟩ := own4 oX
    go_wp2
    go_ret
    exact ⟨rfl, hb0⟩
theorem fits_may (X n : Int) (hX : X = 1 ∨ X = 2 ∨ X = 3) (h1 : -9223372036854775808 ≤ n) (h2 : n ≤ 9223372036854775807) : Q02.fits X n = (nVal X).may n := by
  unfold Q02.fits
  rw [decide_eq_true (Q02.nb_pos hX), Bool.true_and, Bool.eq_iff_iff]
  unfold Nm.may
  simp only [decide_eq_true_eq]
  rcases hX with rfl | rfl | rfl
  · have e : Q02.wrp 1 n = IntKind.i8.wrap n := (Q02.wrap_s8 n).symm
    rw [e, wrap_s8]
    show _ ↔ -128 ≤ n ∧ n ≤ 127
    unfold wr8; omega
  · have e : Q02.wrp 2 n = wrap32 n := (Q02.wrap_w32 n).symm
    rw [e]
    show _ ↔ -2147483648 ≤ n ∧ n ≤ 2147483647
    unfold wrap32; omega
  · have e : Q02.wrp 3 n = wrap64 n := (Q02.wrap_w64 n).symm
    rw [e]
    show _ ↔ -9223372036854775808 ≤ n ∧ n ≤ 9223372036854775807
    unfold wrap64; omega
theorem qfits_as (X n : Int) (hX : X = 1 ∨ X = 2 ∨ X = 3) (h1 : -9223372036854775808 ≤ n) (h2 : n ≤ 9223372036854775807) (w : World) : Calls Tryd.prog 41 #[.int .u8 X, .int .i64 n] w fun e w' => e = .returned (.bool ((nVal X).may n)) ∧ w = w' := by
  rw [← fits_may X n hX h1 h2]; exact Q02.rfits_any X n w
/-- What the document lists, and what an Op has. -/
theorem lay_shape {op : Nat} {l : Lay} (h : lay op = some l) : (op = 49 ∧ l = ⟨nWidth, nPlace, true⟩) ∨ (op ≠ 49 ∧ l.arms = false ∧ ((l.a = nNone ∧ l.b = nNone) ∨ (0 < l.a.sz ∧ l.b = nNone) ∨ (0 < l.a.sz ∧ 0 < l.b.sz))) := by
  unfold lay at h
  repeat' (rcases ite_some h with ⟨hc, rfl⟩ | ⟨hc, h'⟩; (first | (right; refine ⟨by omega, rfl, ?_⟩; first | exact .inl ⟨rfl, rfl⟩ | exact .inr (.inl ⟨by decide, rfl⟩) | exact .inr (.inr ⟨by decide, by decide⟩)) | exact .inl ⟨hc, rfl⟩); clear h; have h := h'; clear h')
  cases h
set_option maxHeartbeats 2000000 in
set_option maxRecDepth 100000 in
theorem ris_none {w : World} {x : In} {ao : Option Addr} {cp : Nat} (hl : InLies w x ao) (n : Nat) (hn : n = x.arms.length) (hmx : n ≤ 1000000) (hlay : lay x.op = none) :
    Calls Tryd.prog 23 #[insV x (.slice ao n cp)] w fun e w' => e = .returned (.bool false) ∧ Below w.heap.size w w' := by
  have hps : prt x.op = [] := by unfold prt; rw [hlay]
  have oX := Own.new w #[.int .u8 (x.op : Int), .int .i64 x.a, .int .i64 x.b, .slice ao n cp] 24
  have hb0 := new_below w (.cells #[.int .u8 (x.op : Int), .int .i64 x.a, .int .i64 x.b, .slice ao n cp] 24)
  have HP : Hid (∀ W, Calls Tryd.prog 39 #[.int .u8 (x.op : Int)] W (RpRet [] false W)) := by
    intro W
    have := rparts_as x.op hl.op W
    rw [hps, hlay] at this
    exact this

  unfold insV
  generalize (x.op : Int) = N at *
  generalize x.a = XA at *
  generalize x.b = XB at *
  clear hps hlay hl hn
  go_enter Tryd.func23, Tryd.ntmps23
  go_upto_region 1 with fail
  generalize w.alloc (.cells #[.int .u8 N, .int .i64 XA, .int .i64 XB, .slice ao n cp] 24) = w1 at *
  obtain ⟨x0, x1, x2, x3, xf⟩ := own4 oX
  go_wp2_with fail
  refine Calls.mono (HP.out w1) ?_
  rintro e w2 ⟨pa, m, c, rfl, ⟨hm, hpl⟩, b2⟩
  clear x0 x1 x2 x3 xf
  replace oX := oX.below b2
  replace hb0 := hb0.trans (b2.mono hb0.size)
  clear b2
  obtain ⟨x0, x1, x2, x3⟩ := cells4 oX
  have hm0 : m = 0 := hm
  subst hm0
  clear hm hpl
  go_wp2_with fail
  refine wp_region_after (by kernel_rfl) (by kernel_rfl) ?_
  repeat (go_big_quiet_step (with_reducible exact rfl))
  refine wpQuiet_nil ?_
  rintro _ ⟨⟨w4, b4⟩, rfl⟩
  clear x0 x1 x2 x3
  replace oX := oX.below b4
  replace hb0 := hb0.trans (b4.mono hb0.size)
  clear b4
  obtain ⟨x0, x1, x2, x3, xf⟩ := own4 oX
  go_wp2
  go_ret
  exact ⟨rfl, hb0⟩
set_option maxHeartbeats 2000000 in
set_option maxRecDepth 100000 in
theorem ris_0 {w : World} {x : In} {ao : Option Addr} {cp : Nat} (hl : InLies w x ao) (n : Nat) (hn : n = x.arms.length) (hmx : n ≤ 1000000) (l : Lay) (hlay : lay x.op = some l) (hps : prt x.op = []) (hop : x.op ≠ 49) :
    Calls Tryd.prog 23 #[insV x (.slice ao n cp)] w fun e w' => e = .returned (.bool (decide (x.a = 0) && (decide (x.b = 0) && decide (n = 0)))) ∧ Below w.heap.size w w' := by
  have oX := Own.new w #[.int .u8 (x.op : Int), .int .i64 x.a, .int .i64 x.b, .slice ao n cp] 24
  have hb0 := new_below w (.cells #[.int .u8 (x.op : Int), .int .i64 x.a, .int .i64 x.b, .slice ao n cp] 24)
  have HP : Hid (∀ W, Calls Tryd.prog 39 #[.int .u8 (x.op : Int)] W (RpRet [] true W)) := by
    intro W
    have := rparts_as x.op hl.op W
    rw [hps, hlay] at this
    exact this
  have h49 : ((x.op : Int) == 49) = false := by rw [beq_eq_false_iff_ne]; omega
  unfold insV
  generalize (x.op : Int) = N at *
  generalize x.a = XA at *
  generalize x.b = XB at *
  clear hps hlay hl hn
  go_enter Tryd.func23, Tryd.ntmps23
  go_upto_region 1 with fail
  generalize w.alloc (.cells #[.int .u8 N, .int .i64 XA, .int .i64 XB, .slice ao n cp] 24) = w1 at *
  obtain ⟨x0, x1, x2, x3, xf⟩ := own4 oX
  go_wp2_with fail
  refine Calls.mono (HP.out w1) ?_
  rintro e w2 ⟨pa, m, c, rfl, ⟨hm, hpl⟩, b2⟩
  clear x0 x1 x2 x3 xf
  replace oX := oX.below b2
  replace hb0 := hb0.trans (b2.mono hb0.size)
  clear b2
  obtain ⟨x0, x1, x2, x3⟩ := cells4 oX
  have hm0 : m = 0 := hm
  subst hm0
  clear hm hpl
  by_cases ha : XA = 0
  · subst ha
    go_wp2_with fail
    refine wp_region_after (by kernel_rfl) (by kernel_rfl) ?_
    repeat (go_big_quiet_step (with_reducible exact rfl))
    refine wpQuiet_nil ?_
    rintro _ ⟨⟨w4, b4⟩, rfl⟩
    clear x0 x1 x2 x3
    replace oX := oX.below b4
    replace hb0 := hb0.trans (b4.mono hb0.size)
    clear b4
    obtain ⟨x0, x1, x2, x3, xf⟩ := own4 oX
    by_cases har : 0 < n
    · have har2 : (0 : Int) < (n : Int) := by omega
      have e0 : decide (n = 0) = false := decide_eq_false (by omega)
      go_wp2
      go_ret
      exact ⟨ret_bool (by first | rfl | (rw [e0]; simp)), hb0⟩
    · obtain rfl : n = 0 := by omega
      go_wp2_with fail
      clear x0 x1 x2 x3 xf
      obtain ⟨x0, x1, x2, x3⟩ := cells4 oX
      refine wp_region_after (by kernel_rfl) (by kernel_rfl) ?_
      repeat (go_big_quiet_step (with_reducible exact rfl))
      refine wpQuiet_nil ?_
      rintro _ ⟨⟨w4, b4⟩, rfl⟩
      clear x0 x1 x2 x3
      replace oX := oX.below b4
      replace hb0 := hb0.trans (b4.mono hb0.size)
      clear b4
      obtain ⟨x0, x1, x2, x3, xf⟩ := own4 oX
      go_wp2
      go_ret
      exact ⟨ret_bool (by first | rfl | simp | (rw [Bool.eq_iff_iff]; simp)), hb0⟩
  · have e0 : decide (XA = 0) = false := decide_eq_false ha
    go_wp2_with fail
    refine wp_region_after (by kernel_rfl) (by kernel_rfl) ?_
    repeat (go_big_quiet_step (with_reducible exact rfl))
    refine wpQuiet_nil ?_
    rintro _ ⟨⟨w4, b4⟩, rfl⟩
    clear x0 x1 x2 x3
    replace oX := oX.below b4
    replace hb0 := hb0.trans (b4.mono hb0.size)
    clear b4
    obtain ⟨x0, x1, x2, x3, xf⟩ := own4 oX
    go_wp2
    go_ret
    exact ⟨ret_bool (by first | rfl | (rw [e0]; simp)), hb0⟩
set_option maxHeartbeats 2000000 in
set_option maxRecDepth 100000 in
theorem ris_1 {w : World} {x : In} {ao : Option Addr} {cp : Nat} (hl : InLies w x ao) (n : Nat) (hn : n = x.arms.length) (hmx : n ≤ 1000000) (l : Lay) (k : Nm) (hlay : lay x.op = some l) (hps : prt x.op = [k]) (hop : x.op ≠ 49) :
    Calls Tryd.prog 23 #[insV x (.slice ao n cp)] w fun e w' => e = .returned (.bool (k.may x.a && (decide (x.b = 0) && decide (n = 0)))) ∧ Below w.heap.size w w' := by
  have oX := Own.new w #[.int .u8 (x.op : Int), .int .i64 x.a, .int .i64 x.b, .slice ao n cp] 24
  have hb0 := new_below w (.cells #[.int .u8 (x.op : Int), .int .i64 x.a, .int .i64 x.b, .slice ao n cp] 24)
  have HP : Hid (∀ W, Calls Tryd.prog 39 #[.int .u8 (x.op : Int)] W (RpRet [k] true W)) := by
    intro W
    have := rparts_as x.op hl.op W
    rw [hps, hlay] at this
    exact this
  have h49 : ((x.op : Int) == 49) = false := by rw [beq_eq_false_iff_ne]; omega
  have MA : Hid (∀ W, Calls Tryd.prog 40 #[.agg #[.int .i64 (k.sz : Int), .int .i64 k.lo, .int .i64 k.hi, .bool k.sg], .int .i64 x.a] W fun e w' => e = .returned (.bool (k.may x.a)) ∧ Below W.heap.size W w') := fun W => rwithin_as k x.a W
  generalize k.may x.a = R1 at *
  unfold insV
  generalize (x.op : Int) = N at *
  generalize x.a = XA at *
  generalize x.b = XB at *
  clear hps hlay hl hn
  go_enter Tryd.func23, Tryd.ntmps23
  go_upto_region 1 with fail
  generalize w.alloc (.cells #[.int .u8 N, .int .i64 XA, .int .i64 XB, .slice ao n cp] 24) = w1 at *
  obtain ⟨x0, x1, x2, x3, xf⟩ := own4 oX
  go_wp2_with fail
  refine Calls.mono (HP.out w1) ?_
  rintro e w2 ⟨pa, m, c, rfl, ⟨hm, hpl⟩, b2⟩
  clear x0 x1 x2 x3 xf
  replace oX := oX.below b2
  replace hb0 := hb0.trans (b2.mono hb0.size)
  clear b2
  obtain ⟨x0, x1, x2, x3⟩ := cells4 oX
  have hm0 : m = 1 := hm
  subst hm0
  obtain ⟨pb, rfl, oP⟩ := hpl.resolve_left (by simp)
  have oP : Own w2 pb #[.int .i64 (k.sz : Int), .int .i64 k.lo, .int .i64 k.hi, .bool k.sg] 96 := oP
  clear hm hpl
  generalize (k.sz : Int) = z at *
  generalize k.lo = lo at *
  generalize k.hi = hi at *
  generalize k.sg = sg at *
  obtain ⟨p0, p1, p2, p3⟩ := cells4 oP
  have QA : Hid (∀ t : After w2, Calls Tryd.prog 40 #[.agg #[.int .i64 z, .int .i64 lo, .int .i64 hi, .bool sg], .int .i64 XA] t.1 fun e w'' => e = .returned (.bool R1) ∧ ∃ t' : After w2, w'' = t'.1) := fun t => quiet_new t (MA.out t.1)
  cases R1 with
  | false =>
    go_wp2_with fail
    refine wp_region_after (by kernel_rfl) (by kernel_rfl) ?_
    repeat (go_big_quiet_step (with_reducible exact rfl))
    go_big_quiet_step (exact QA.out _)
    repeat (go_big_quiet_step (with_reducible exact rfl))
    refine wpQuiet_nil ?_
    rintro _ ⟨⟨w4, b4⟩, rfl⟩
    clear x0 x1 x2 x3
    replace oX := oX.below b4
    replace hb0 := hb0.trans (b4.mono hb0.size)
    clear b4
    obtain ⟨x0, x1, x2, x3, xf⟩ := own4 oX
    go_wp2
    go_ret
    exact ⟨rfl, hb0⟩
  | true =>
    go_wp2_with fail
    refine wp_region_after (by kernel_rfl) (by kernel_rfl) ?_
    repeat (go_big_quiet_step (with_reducible exact rfl))
    go_big_quiet_step (exact QA.out _)
    repeat (go_big_quiet_step (with_reducible exact rfl))
    refine wpQuiet_nil ?_
    rintro _ ⟨⟨w4, b4⟩, rfl⟩
    clear x0 x1 x2 x3
    replace oX := oX.below b4
    replace hb0 := hb0.trans (b4.mono hb0.size)
    clear b4 p0 p1 p2 p3
    obtain ⟨x0, x1, x2, x3, xf⟩ := own4 oX
    by_cases har : 0 < n
    · have har2 : (0 : Int) < (n : Int) := by omega
      have e0 : decide (n = 0) = false := decide_eq_false (by omega)
      go_wp2
      go_ret
      exact ⟨ret_bool (by first | rfl | (rw [e0]; simp)), hb0⟩
    · obtain rfl : n = 0 := by omega
      go_wp2_with fail
      clear x0 x1 x2 x3 xf
      obtain ⟨x0, x1, x2, x3⟩ := cells4 oX
      refine wp_region_after (by kernel_rfl) (by kernel_rfl) ?_
      repeat (go_big_quiet_step (with_reducible exact rfl))
      refine wpQuiet_nil ?_
      rintro _ ⟨⟨w4, b4⟩, rfl⟩
      clear x0 x1 x2 x3
      replace oX := oX.below b4
      replace hb0 := hb0.trans (b4.mono hb0.size)
      clear b4
      obtain ⟨x0, x1, x2, x3, xf⟩ := own4 oX
      go_wp2
      go_ret
      exact ⟨ret_bool (by first | rfl | simp | (rw [Bool.eq_iff_iff]; simp)), hb0⟩
set_option maxHeartbeats 2000000 in
set_option maxRecDepth 100000 in
theorem ris_2 {w : World} {x : In} {ao : Option Addr} {cp : Nat} (hl : InLies w x ao) (n : Nat) (hn : n = x.arms.length) (hmx : n ≤ 1000000) (l : Lay) (k j : Nm) (hlay : lay x.op = some l) (hps : prt x.op = [k, j]) (hop : x.op ≠ 49) :
    Calls Tryd.prog 23 #[insV x (.slice ao n cp)] w fun e w' => e = .returned (.bool (k.may x.a && (j.may x.b && decide (n = 0)))) ∧ Below w.heap.size w w' := by
  have oX := Own.new w #[.int .u8 (x.op : Int), .int .i64 x.a, .int .i64 x.b, .slice ao n cp] 24
  have hb0 := new_below w (.cells #[.int .u8 (x.op : Int), .int .i64 x.a, .int .i64 x.b, .slice ao n cp] 24)
  have HP : Hid (∀ W, Calls Tryd.prog 39 #[.int .u8 (x.op : Int)] W (RpRet [k, j] true W)) := by
    intro W
    have := rparts_as x.op hl.op W
    rw [hps, hlay] at this
    exact this
  have h49 : ((x.op : Int) == 49) = false := by rw [beq_eq_false_iff_ne]; omega
  have MA : Hid (∀ W, Calls Tryd.prog 40 #[.agg #[.int .i64 (k.sz : Int), .int .i64 k.lo, .int .i64 k.hi, .bool k.sg], .int .i64 x.a] W fun e w' => e = .returned (.bool (k.may x.a)) ∧ Below W.heap.size W w') := fun W => rwithin_as k x.a W
  have MB : Hid (∀ W, Calls Tryd.prog 40 #[.agg #[.int .i64 (j.sz : Int), .int .i64 j.lo, .int .i64 j.hi, .bool j.sg], .int .i64 x.b] W fun e w' => e = .returned (.bool (j.may x.b)) ∧ Below W.heap.size W w') := fun W => rwithin_as j x.b W
  generalize k.may x.a = R1 at *
  generalize j.may x.b = R2 at *
  unfold insV
  generalize (x.op : Int) = N at *
  generalize x.a = XA at *
  generalize x.b = XB at *
  clear hps hlay hl hn
  go_enter Tryd.func23, Tryd.ntmps23
  go_upto_region 1 with fail
  generalize w.alloc (.cells #[.int .u8 N, .int .i64 XA, .int .i64 XB, .slice ao n cp] 24) = w1 at *
  obtain ⟨x0, x1, x2, x3, xf⟩ := own4 oX
  go_wp2_with fail
  refine Calls.mono (HP.out w1) ?_
  rintro e w2 ⟨pa, m, c, rfl, ⟨hm, hpl⟩, b2⟩
  clear x0 x1 x2 x3 xf
  replace oX := oX.below b2
  replace hb0 := hb0.trans (b2.mono hb0.size)
  clear b2
  obtain ⟨x0, x1, x2, x3⟩ := cells4 oX
  have hm0 : m = 2 := hm
  subst hm0
  obtain ⟨pb, rfl, oP⟩ := hpl.resolve_left (by simp)
  have oP : Own w2 pb #[.int .i64 (k.sz : Int), .int .i64 k.lo, .int .i64 k.hi, .bool k.sg, .int .i64 (j.sz : Int), .int .i64 j.lo, .int .i64 j.hi, .bool j.sg] 96 := oP
  clear hm hpl
  generalize (k.sz : Int) = z at *
  generalize k.lo = lo at *
  generalize k.hi = hi at *
  generalize k.sg = sg at *
  generalize (j.sz : Int) = z' at *
  generalize j.lo = lo' at *
  generalize j.hi = hi' at *
  generalize j.sg = sg' at *
  obtain ⟨p0, p1, p2, p3, p4, p5, p6, p7⟩ := cells8 oP
  have QA : Hid (∀ t : After w2, Calls Tryd.prog 40 #[.agg #[.int .i64 z, .int .i64 lo, .int .i64 hi, .bool sg], .int .i64 XA] t.1 fun e w'' => e = .returned (.bool R1) ∧ ∃ t' : After w2, w'' = t'.1) := fun t => quiet_new t (MA.out t.1)
  cases R1 with
  | false =>
    go_wp2_with fail
    refine wp_region_after (by kernel_rfl) (by kernel_rfl) ?_
    repeat (go_big_quiet_step (with_reducible exact rfl))
    go_big_quiet_step (exact QA.out _)
    repeat (go_big_quiet_step (with_reducible exact rfl))
    refine wpQuiet_nil ?_
    rintro _ ⟨⟨w4, b4⟩, rfl⟩
    clear x0 x1 x2 x3
    replace oX := oX.below b4
    replace hb0 := hb0.trans (b4.mono hb0.size)
    clear b4
    obtain ⟨x0, x1, x2, x3, xf⟩ := own4 oX
    go_wp2
    go_ret
    exact ⟨rfl, hb0⟩
  | true =>
    go_wp2_with fail
    refine wp_region_after (by kernel_rfl) (by kernel_rfl) ?_
    repeat (go_big_quiet_step (with_reducible exact rfl))
    go_big_quiet_step (exact QA.out _)
    repeat (go_big_quiet_step (with_reducible exact rfl))
    refine wpQuiet_nil ?_
    rintro _ ⟨⟨w4, b4⟩, rfl⟩
    clear x0 x1 x2 x3
    replace oX := oX.below b4
    replace hb0 := hb0.trans (b4.mono hb0.size)
    clear p0 p1 p2 p3 p4 p5 p6 p7
    replace oP := oP.below b4
    clear b4
    obtain ⟨x0, x1, x2, x3, xf⟩ := own4 oX
    by_cases har : 0 < n
    · have har2 : (0 : Int) < (n : Int) := by omega
      have e0 : decide (n = 0) = false := decide_eq_false (by omega)
      go_wp2
      go_ret
      exact ⟨ret_bool (by first | rfl | (rw [e0]; simp)), hb0⟩
    · obtain rfl : n = 0 := by omega
      cases R2 with
      | false =>
        go_wp2_with fail
        clear x0 x1 x2 x3 xf
        obtain ⟨x0, x1, x2, x3⟩ := cells4 oX
        obtain ⟨p0, p1, p2, p3, p4, p5, p6, p7⟩ := cells8 oP
        refine wp_region_after (by kernel_rfl) (by kernel_rfl) ?_
        repeat (go_big_quiet_step (with_reducible exact rfl))
        go_big_quiet_step (exact quiet_new _ (MB.out _))
        repeat (go_big_quiet_step (with_reducible exact rfl))
        refine wpQuiet_nil ?_
        rintro _ ⟨⟨w5, b4⟩, rfl⟩
        clear x0 x1 x2 x3
        replace oX := oX.below b4
        replace hb0 := hb0.trans (b4.mono hb0.size)
        clear b4
        obtain ⟨x0, x1, x2, x3, xf⟩ := own4 oX
        go_wp2
        go_ret
        exact ⟨ret_bool (by first | rfl | simp | (rw [Bool.eq_iff_iff]; simp)), hb0⟩
      | true =>
        go_wp2_with fail
        clear x0 x1 x2 x3 xf
        obtain ⟨x0, x1, x2, x3⟩ := cells4 oX
        obtain ⟨p0, p1, p2, p3, p4, p5, p6, p7⟩ := cells8 oP
        refine wp_region_after (by kernel_rfl) (by kernel_rfl) ?_
        repeat (go_big_quiet_step (with_reducible exact rfl))
        go_big_quiet_step (exact quiet_new _ (MB.out _))
        repeat (go_big_quiet_step (with_reducible exact rfl))
        refine wpQuiet_nil ?_
        rintro _ ⟨⟨w5, b4⟩, rfl⟩
        clear x0 x1 x2 x3
        replace oX := oX.below b4
        replace hb0 := hb0.trans (b4.mono hb0.size)
        clear b4
        obtain ⟨x0, x1, x2, x3, xf⟩ := own4 oX
        go_wp2
        go_ret
        exact ⟨ret_bool (by first | rfl | simp | (rw [Bool.eq_iff_iff]; simp)), hb0⟩
set_option maxHeartbeats 2000000 in
set_option maxRecDepth 100000 in
theorem ris_49 {w : World} {x : In} {ao : Option Addr} {cp : Nat} (hl : InLies w x ao) (n : Nat) (hn : n = x.arms.length) (hmx : n ≤ 1000000) (l : Lay) (hlay : lay x.op = some l) (hps : prt x.op = [nWidth]) (hop : x.op = 49) :
    Calls Tryd.prog 23 #[insV x (.slice ao n cp)] w fun e w' => e = .returned (.bool (nWidth.may x.a && (x.arms.all (armOk x.a) && (decide (n ≤ 65535) && nPlace.may x.b)))) ∧ Below w.heap.size w w' := by
  have oX := Own.new w #[.int .u8 (x.op : Int), .int .i64 x.a, .int .i64 x.b, .slice ao n cp] 24
  have hb0 := new_below w (.cells #[.int .u8 (x.op : Int), .int .i64 x.a, .int .i64 x.b, .slice ao n cp] 24)
  have HP : Hid (∀ W, Calls Tryd.prog 39 #[.int .u8 (x.op : Int)] W (RpRet [nWidth] true W)) := by
    intro W
    have := rparts_as x.op hl.op W
    rw [hps, hlay] at this
    exact this
  have e49 : (x.op : Int) = 49 := by rw [hop]; rfl
  have HLi : Hid (∀ W, Below w.heap.size w W → ArmLies W ao x.arms) := fun W h => hl.arms.below h
  have HN : Hid (n = x.arms.length) := hn
  have HR : Hid (nWidth.may x.a = true → 1 ≤ x.a ∧ x.a ≤ 3) := fun q => of_decide_eq_true q
  have MA : Hid (∀ W, Calls Tryd.prog 40 #[.agg #[.int .i64 (nWidth.sz : Int), .int .i64 nWidth.lo, .int .i64 nWidth.hi, .bool nWidth.sg], .int .i64 x.a] W fun e w' => e = .returned (.bool (nWidth.may x.a)) ∧ Below W.heap.size W w') := fun W => rwithin_as nWidth x.a W
  have MB : Hid (∀ W, Calls Tryd.prog 40 #[.agg #[.int .i64 (nPlace.sz : Int), .int .i64 nPlace.lo, .int .i64 nPlace.hi, .bool nPlace.sg], .int .i64 x.b] W fun e w' => e = .returned (.bool (nPlace.may x.b)) ∧ Below W.heap.size W w') := fun W => rwithin_as nPlace x.b W
  obtain ⟨Z, HZ⟩ : ∃ Z, Hid (x.arms.all (armOk x.a) = Z) := ⟨_, rfl⟩
  rw [HZ.out]
  generalize nWidth.may x.a = R1 at *
  generalize nPlace.may x.b = R2 at *
  generalize x.arms = ar at *
  unfold insV
  generalize (x.op : Int) = N at *
  generalize x.a = XA at *
  generalize x.b = XB at *
  clear hps hlay hl hn hop
  subst e49
  go_enter Tryd.func23, Tryd.ntmps23
  go_upto_region 1 with fail
  generalize w.alloc (.cells #[.int .u8 49, .int .i64 XA, .int .i64 XB, .slice ao n cp] 24) = w1 at *
  obtain ⟨x0, x1, x2, x3, xf⟩ := own4 oX
  go_wp2_with fail
  refine Calls.mono (HP.out w1) ?_
  rintro e w2 ⟨pa, m, c, rfl, ⟨hm, hpl⟩, b2⟩
  clear x0 x1 x2 x3 xf
  replace oX := oX.below b2
  replace hb0 := hb0.trans (b2.mono hb0.size)
  clear b2
  obtain ⟨x0, x1, x2, x3⟩ := cells4 oX
  have hm0 : m = 1 := hm
  subst hm0
  obtain ⟨pb, rfl, oP⟩ := hpl.resolve_left (by simp)
  have oP : Own w2 pb #[.int .i64 (nWidth.sz : Int), .int .i64 nWidth.lo, .int .i64 nWidth.hi, .bool nWidth.sg] 96 := oP
  clear hm hpl
  generalize (nWidth.sz : Int) = z at *
  generalize nWidth.lo = lo at *
  generalize nWidth.hi = hi at *
  generalize nWidth.sg = sg at *
  obtain ⟨p0, p1, p2, p3⟩ := cells4 oP
  cases R1 with
  | false =>
    go_wp2_with fail
    refine wp_region_after (by kernel_rfl) (by kernel_rfl) ?_
    repeat (go_big_quiet_step (with_reducible exact rfl))
    go_big_quiet_step (exact quiet_new _ (MA.out _))
    repeat (go_big_quiet_step (with_reducible exact rfl))
    refine wpQuiet_nil ?_
    rintro _ ⟨⟨w4, b4⟩, rfl⟩
    clear x0 x1 x2 x3
    replace oX := oX.below b4
    replace hb0 := hb0.trans (b4.mono hb0.size)
    clear b4
    obtain ⟨x0, x1, x2, x3, xf⟩ := own4 oX
    go_wp2
    go_ret
    exact ⟨ret_bool (by simp), hb0⟩
  | true =>
    go_wp2_with fail
    refine wp_region_after (by kernel_rfl) (by kernel_rfl) ?_
    repeat (go_big_quiet_step (with_reducible exact rfl))
    go_big_quiet_step (exact quiet_new _ (MA.out _))
    repeat (go_big_quiet_step (with_reducible exact rfl))
    refine wpQuiet_nil ?_
    rintro _ ⟨⟨w4, b4⟩, rfl⟩
    clear x0 x1 x2 x3
    replace oX := oX.below b4
    replace hb0 := hb0.trans (b4.mono hb0.size)
    clear b4 p0 p1 p2 p3 oP MA
    obtain ⟨x0, x1, x2, x3, xf⟩ := own4 oX
    have h13 : 1 ≤ XA ∧ XA ≤ 3 := HR.out (by first | rfl | trivial)
    have e8 : IntKind.u8.wrap XA = XA := by rw [IntKind.wrap_u8]; omega
    go_wp2_with fail
    clear x0 x1 x2 x3 xf
    go_loopw [5] (fun i wr => ∃ k : Nat, k ≤ n ∧ i = .int .i64 (k : Int) ∧ (ar.take k).all (armOk XA) = true ∧ Own wr w.heap.size #[.int .u8 49, .int .i64 XA, .int .i64 XB, .slice ao n cp] 24 ∧ Below w.heap.size w wr) (fun i _ => n - (intOf i).toNat)
    case atStart => exact ⟨0, Nat.zero_le _, rfl, rfl, oX, hb0⟩
    case round =>
      clear oX hb0
      obtain ⟨k, hk, rfl, hall, oX, hb0⟩ := hrel
      have hli := HLi.out wr hb0
      by_cases hlt : k < n
      · have hka : k < ar.length := by rw [← HN.out]; exact hlt
        rcases hli.lies with h0 | ⟨b, off, rfl, hbl, hc⟩
        · rw [h0] at hka; cases hka
        · obtain ⟨V, hV⟩ : ∃ V, ar.getD k (0, 0) = V := ⟨_, rfl⟩
          have hVm : V ∈ ar := by rw [← hV]; simp [List.getD, hka]
          have hVn := hli.nums V hVm
          have htk : ar.take (k + 1) = ar.take k ++ [V] := by rw [List.take_succ_eq_append_getElem hka]; congr 2; rw [← hV]; simp [List.getD, hka]
          have hcA : ∀ t : After wr, t.1.cell? ⟨b, off + k * 2, none⟩ = some (.int .i64 V.1) ∧ t.1.cell? ⟨b, off + k * 2 + 1, none⟩ = some (.int .i64 V.2) := fun t => by
            rw [t.2.cell (p := ⟨b, off + k * 2, none⟩) hbl, t.2.cell (p := ⟨b, off + k * 2 + 1, none⟩) hbl, ← hV]; exact hc k hka
          obtain ⟨V1, V2⟩ := V
          have c1 := fun t => (hcA t).1
          have c2 := fun t => (hcA t).2
          simp only at c1 c2 hVn
          have HALL : Hid ((ar.take (k + 1)).all (armOk XA) = armOk XA (V1, V2)) := by unfold Hid; rw [htk, List.all_append, hall]; simp
          have HNO : Hid (armOk XA (V1, V2) = false → Z = false) := by
            intro q
            rw [← HZ.out]
            have : (ar.take (k + 1)).all (armOk XA) = false := by rw [HALL.out, q]
            rw [← List.take_append_drop (k + 1) ar, List.all_append, this]; rfl
          have QF : Hid (∀ t : After wr, Calls Tryd.prog 41 #[.int .u8 XA, .int .i64 V1] t.1 fun e w'' => e = .returned (.bool ((nVal XA).may V1)) ∧ ∃ t' : After wr, w'' = t'.1) := fun t => (qfits_as XA V1 (by omega) hVn.1.1 hVn.1.2 t.1).mono fun _ _ h => ⟨h.1, t, h.2.symm⟩
          have QL : Hid (∀ t : After wr, Calls Tryd.prog 42 #[] t.1 fun e w'' => e = .returned (.agg #[.int .i64 4, .int .i64 0, .int .i64 4294967295, .bool false]) ∧ ∃ t' : After wr, w'' = t'.1) := fun t => quiet_new t (rleap_any t.1)
          have QW : Hid (∀ t : After wr, Calls Tryd.prog 40 #[.agg #[.int .i64 4, .int .i64 0, .int .i64 4294967295, .bool false], .int .i64 V2] t.1 fun e w'' => e = .returned (.bool (nPlace.may V2)) ∧ ∃ t' : After wr, w'' = t'.1) := fun t => quiet_new t (rwithin_as nPlace V2 t.1)
          have hk0 : (0 : Int) ≤ (k : Int) := by omega
          have hk1 : (k : Int) < (n : Int) := by omega
          clear hc hV htk hall hVm hli hcA
          obtain ⟨x0, x1, x2, x3, xf⟩ := own4 oX
          cases m1 : (nVal XA).may V1 with
          | false =>
            have hz : Z = false := HNO.out (by unfold armOk; rw [m1]; rfl)
            subst hz
            rw [m1] at QF
            go_wp2_with fail
            clear x0 x1 x2 x3 xf
            obtain ⟨x0, x1, x2, x3⟩ := cells4 oX
            refine wp_region_after (by kernel_rfl) (by kernel_rfl) ?_
            repeat (go_big_quiet_step (with_reducible exact rfl))
            go_big_quiet_step (exact QF.out _)
            repeat (go_big_quiet_step (with_reducible exact rfl))
            refine wpQuiet_nil ?_
            rintro _ ⟨⟨w4, b4⟩, rfl⟩
            clear x0 x1 x2 x3
            replace oX := oX.below b4
            replace hb0 := hb0.trans (b4.mono hb0.size)
            clear b4
            obtain ⟨x0, x1, x2, x3, xf⟩ := own4 oX
            go_wp2
            go_ret
            exact ⟨ret_bool (by simp), hb0⟩
          | true =>
            rw [m1] at QF
            cases m2 : nPlace.may V2 with
            | false =>
              have hz : Z = false := HNO.out (by unfold armOk; rw [m1, m2]; rfl)
              subst hz
              rw [m2] at QW
              go_wp2_with fail
              clear x0 x1 x2 x3 xf
              obtain ⟨x0, x1, x2, x3⟩ := cells4 oX
              refine wp_region_after (by kernel_rfl) (by kernel_rfl) ?_
              repeat (go_big_quiet_step (with_reducible exact rfl))
              go_big_quiet_step (exact QF.out _)
              repeat (go_big_quiet_step (with_reducible exact rfl))
              go_big_quiet_step (exact QL.out _)
              repeat (go_big_quiet_step (with_reducible exact rfl))
              go_big_quiet_step (exact QW.out _)
              repeat (go_big_quiet_step (with_reducible exact rfl))
              refine wpQuiet_nil ?_
              rintro _ ⟨⟨w4, b4⟩, rfl⟩
              clear x0 x1 x2 x3
              replace oX := oX.below b4
              replace hb0 := hb0.trans (b4.mono hb0.size)
              clear b4
              obtain ⟨x0, x1, x2, x3, xf⟩ := own4 oX
              go_wp2
              go_ret
              exact ⟨ret_bool (by simp), hb0⟩
            | true =>
              have hok : armOk XA (V1, V2) = true := by unfold armOk; rw [m1, m2]; rfl
              rw [m2] at QW
              go_wp2_with fail
              clear x0 x1 x2 x3 xf
              obtain ⟨x0, x1, x2, x3⟩ := cells4 oX
              refine wp_region_after (by kernel_rfl) (by kernel_rfl) ?_
              repeat (go_big_quiet_step (with_reducible exact rfl))
              go_big_quiet_step (exact QF.out _)
              repeat (go_big_quiet_step (with_reducible exact rfl))
              go_big_quiet_step (exact QL.out _)
              repeat (go_big_quiet_step (with_reducible exact rfl))
              go_big_quiet_step (exact QW.out _)
              repeat (go_big_quiet_step (with_reducible exact rfl))
              refine wpQuiet_nil ?_
              rintro _ ⟨⟨w4, b4⟩, rfl⟩
              clear x0 x1 x2 x3
              replace oX := oX.below b4
              replace hb0 := hb0.trans (b4.mono hb0.size)
              go_wp2
              go_roundw
              case rel => exact ⟨k + 1, hlt, by go_num, by rw [HALL.out, hok], oX, hb0⟩
              case measure => simp [intOf]; omega
      · have hz : Z = true := by
          rw [← HZ.out]
          rw [List.take_of_length_le (by rw [← HN.out]; omega)] at hall
          exact hall
        subst hz
        obtain rfl : k = n := by omega
        have QL : Hid (∀ t : After wr, Calls Tryd.prog 42 #[] t.1 fun e w'' => e = .returned (.agg #[.int .i64 4, .int .i64 0, .int .i64 4294967295, .bool false]) ∧ ∃ t' : After wr, w'' = t'.1) := fun t => quiet_new t (rleap_any t.1)
        have QW : Hid (∀ t : After wr, Calls Tryd.prog 40 #[.agg #[.int .i64 4, .int .i64 0, .int .i64 4294967295, .bool false], .int .i64 XB] t.1 fun e w'' => e = .returned (.bool R2) ∧ ∃ t' : After wr, w'' = t'.1) := fun t => quiet_new t (MB.out t.1)
        clear hli hall HLi HN HZ
        obtain ⟨x0, x1, x2, x3, xf⟩ := own4 oX
        by_cases h6 : k ≤ 65535
        · have h6i : (k : Int) ≤ 65535 := by omega
          go_wp2_with fail
          clear x0 x1 x2 x3 xf
          obtain ⟨x0, x1, x2, x3⟩ := cells4 oX
          refine wp_region_after (by kernel_rfl) (by kernel_rfl) ?_
          repeat (go_big_quiet_step (with_reducible exact rfl))
          go_big_quiet_step (exact QL.out _)
          repeat (go_big_quiet_step (with_reducible exact rfl))
          go_big_quiet_step (exact QW.out _)
          repeat (go_big_quiet_step (with_reducible exact rfl))
          refine wpQuiet_nil ?_
          rintro _ ⟨⟨w4, b4⟩, rfl⟩
          clear x0 x1 x2 x3
          replace oX := oX.below b4
          replace hb0 := hb0.trans (b4.mono hb0.size)
          clear b4
          obtain ⟨x0, x1, x2, x3, xf⟩ := own4 oX
          go_wp2
          go_ret
          exact ⟨ret_bool (by simp [h6]), hb0⟩
        · have h6i : decide ((k : Int) ≤ 65535) = false := decide_eq_false (by omega)
          go_wp2_with fail
          clear x0 x1 x2 x3 xf
          obtain ⟨x0, x1, x2, x3⟩ := cells4 oX
          refine wp_region_after (by kernel_rfl) (by kernel_rfl) ?_
          repeat (go_big_quiet_step (with_reducible exact rfl))
          refine wpQuiet_nil ?_
          rintro _ ⟨⟨w4, b4⟩, rfl⟩
          clear x0 x1 x2 x3
          replace oX := oX.below b4
          replace hb0 := hb0.trans (b4.mono hb0.size)
          clear b4
          obtain ⟨x0, x1, x2, x3, xf⟩ := own4 oX
          go_wp2
          go_ret
          exact ⟨ret_bool (by simp; omega), hb0⟩
theorem ris_as {w : World} {x : In} {ao : Option Addr} {cp : Nat} (hl : InLies w x ao) (n : Nat) (hn : n = x.arms.length) (hmx : n ≤ 1000000) :
    Calls Tryd.prog 23 #[insV x (.slice ao n cp)] w fun e w' => e = .returned (.bool x.ok) ∧ Below w.heap.size w w' := by
  have hem : x.arms.isEmpty = decide (n = 0) := by rw [hn]; cases x.arms <;> simp
  have h00 : ∀ z : Int, nNone.may z = decide (z = 0) := fun z => by
    unfold Nm.may
    rw [Bool.eq_iff_iff]
    simp only [decide_eq_true_eq]
    show 0 ≤ z ∧ z ≤ 0 ↔ z = 0
    omega
  cases h : lay x.op with
  | none =>
    have e : x.ok = false := by unfold In.ok; rw [h]
    rw [e]
    exact ris_none hl n hn hmx h
  | some l =>
    rcases lay_shape h with ⟨h49, rfl⟩ | ⟨hne, har, hs⟩
    · have e : x.ok = (nWidth.may x.a && (x.arms.all (armOk x.a) && (decide (n ≤ 65535) && nPlace.may x.b))) := by
        unfold In.ok
        rw [h]
        show (nWidth.may x.a && (nPlace.may x.b && (decide (x.arms.length ≤ 65535) && x.arms.all (armOk x.a)))) = _
        rw [hn]
        generalize nWidth.may x.a = a
        generalize nPlace.may x.b = b
        generalize decide (x.arms.length ≤ 65535) = c
        generalize x.arms.all (armOk x.a) = d
        revert a b c d; decide
      rw [e]
      exact ris_49 hl n hn hmx _ h (by unfold prt; rw [h]; rfl) h49
    · have e : x.ok = (l.a.may x.a && (l.b.may x.b && decide (n = 0))) := by
        unfold In.ok
        rw [h]
        show (l.a.may x.a && (l.b.may x.b && l.hasArms x.a x.arms)) = _
        unfold Lay.hasArms
        rw [har, if_neg (by simp), hem]
      rw [e]
      rcases hs with ⟨ha, hb⟩ | ⟨ha, hb⟩ | ⟨ha, hb⟩
      · rw [ha, hb, h00, h00]
        exact ris_0 hl n hn hmx l h (by unfold prt; rw [h]; show (if l.arms = true then _ else if l.a.sz = 0 then _ else _) = _; rw [har, if_neg (by simp), ha]; rfl) hne
      · rw [hb, h00]
        exact ris_1 hl n hn hmx l l.a h (by unfold prt; rw [h]; show (if l.arms = true then _ else if l.a.sz = 0 then _ else if l.b.sz = 0 then _ else _) = _; rw [har, if_neg (by simp), if_neg (by omega), hb]; rfl) hne
      · exact ris_2 hl n hn hmx l l.a l.b h (by unfold prt; rw [h]; show (if l.arms = true then _ else if l.a.sz = 0 then _ else if l.b.sz = 0 then _ else _) = _; rw [har, if_neg (by simp), if_neg (by omega), if_neg (by omega)]) hne
end Go.Proofs.YtjfdlphkmpkjdaaDoor
