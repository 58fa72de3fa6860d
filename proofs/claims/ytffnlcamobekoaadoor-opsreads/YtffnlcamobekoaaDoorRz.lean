/-
  CONTRACTS of the document's Size.
-/
import Derived.Test.YtffnlcamobekoaaDoorRt
namespace Go.Proofs.YtffnlcamobekoaaDoor
open Go.RowKit
set_option linter.unusedVariables false

theorem own8 {w : World} {g : Nat} {a0 a1 a2 a3 a4 a5 a6 a7 : Value} {t : TypeId} (h : Own w g #[a0, a1, a2, a3, a4, a5, a6, a7] t) : w.cell? ⟨g, 0, none⟩ = some a0 ∧ w.cell? ⟨g, 1, none⟩ = some a1 ∧ w.cell? ⟨g, 2, none⟩ = some a2 ∧ w.cell? ⟨g, 3, none⟩ = some a3 ∧ w.cell? ⟨g, 4, none⟩ = some a4 ∧ w.cell? ⟨g, 5, none⟩ = some a5 ∧ w.cell? ⟨g, 6, none⟩ = some a6 ∧ w.cell? ⟨g, 7, none⟩ = some a7 ∧ ∀ j, w.frozen? ⟨g, j, none⟩ = false := ⟨h.cell 0, h.cell 1, h.cell 2, h.cell 3, h.cell 4, h.cell 5, h.cell 6, h.cell 7, h.froz⟩
set_option maxHeartbeats 2000000 in
set_option maxRecDepth 100000 in
theorem rsize_no {w : World} {x : In} {ao : Option Addr} {cp : Nat} (hl : InLies w x ao) (n : Nat) (hn : n = x.arms.length) (hmx : n ≤ 1000000) (hok : x.ok = false) :
    Calls Tryd.prog 14 #[insV x (.slice ao n cp)] w fun e w' => e = .returned (.int .i64 0) ∧ Below w.heap.size w w' := by
  have oX := Own.new w #[.int .u8 (x.op : Int), .int .i64 x.a, .int .i64 x.b, .slice ao n cp] 24
  have hb0 := new_below w (.cells #[.int .u8 (x.op : Int), .int .i64 x.a, .int .i64 x.b, .slice ao n cp] 24)
  have MI : Hid (∀ W, Below w.heap.size w W → Calls Tryd.prog 33 #[.agg #[.int .u8 (x.op : Int), .int .i64 x.a, .int .i64 x.b, .slice ao n cp]] W fun e w' => e = .returned (.bool false) ∧ Below W.heap.size W w') := fun W h => by
    have := ris_as (cp := cp) (hl.below h) n hn hmx
    rw [hok] at this
    exact this
  unfold insV
  generalize (x.op : Int) = N at *
  generalize x.a = XA at *
  generalize x.b = XB at *
  clear hl hn hok
  go_enter Tryd.func14, Tryd.ntmps14
  go_upto_region 1 with fail
  generalize w.alloc (.cells #[.int .u8 N, .int .i64 XA, .int .i64 XB, .slice ao n cp] 24) = w1 at *
  obtain ⟨x0, x1, x2, x3, xf⟩ := own4 oX
  go_wp2_with fail
  refine Calls.mono (MI.out w1 hb0) ?_
  rintro e w2 ⟨rfl, b2⟩
  clear x0 x1 x2 x3 xf
  replace oX := oX.below b2
  replace hb0 := hb0.trans (b2.mono hb0.size)
  clear b2
  obtain ⟨x0, x1, x2, x3, xf⟩ := own4 oX
  go_wp2
  go_ret
  exact ⟨rfl, hb0⟩
set_option maxHeartbeats 2000000 in
set_option maxRecDepth 100000 in
theorem rsize_0 {w : World} {x : In} {ao : Option Addr} {cp : Nat} (hl : InLies w x ao) (n : Nat) (hn : n = x.arms.length) (hmx : n ≤ 1000000) (hok : x.ok = true) (l : Lay) (hlay : lay x.op = some l) (hps : prt x.op = []) (hop : x.op ≠ 49) (S : Int) (hS : S = 1) :
    Calls Tryd.prog 14 #[insV x (.slice ao n cp)] w fun e w' => e = .returned (.int .i64 S) ∧ Below w.heap.size w w' := by
  have oX := Own.new w #[.int .u8 (x.op : Int), .int .i64 x.a, .int .i64 x.b, .slice ao n cp] 24
  have hb0 := new_below w (.cells #[.int .u8 (x.op : Int), .int .i64 x.a, .int .i64 x.b, .slice ao n cp] 24)
  have MI : Hid (∀ W, Below w.heap.size w W → Calls Tryd.prog 33 #[.agg #[.int .u8 (x.op : Int), .int .i64 x.a, .int .i64 x.b, .slice ao n cp]] W fun e w' => e = .returned (.bool true) ∧ Below W.heap.size W w') := fun W h => by
    have := ris_as (cp := cp) (hl.below h) n hn hmx
    rw [hok] at this
    exact this
  have HP : Hid (∀ W, Calls Tryd.prog 34 #[.int .u8 (x.op : Int)] W (RpRet [] true W)) := by
    intro W
    have := rparts_as x.op hl.op W
    rw [hps, hlay] at this
    exact this
  have h49 : ((x.op : Int) == 49) = false := by rw [beq_eq_false_iff_ne]; omega
  unfold insV
  generalize (x.op : Int) = N at *
  generalize x.a = XA at *
  generalize x.b = XB at *
  clear hl hn hok hps hlay hop
  go_enter Tryd.func14, Tryd.ntmps14
  go_upto_region 1 with fail
  generalize w.alloc (.cells #[.int .u8 N, .int .i64 XA, .int .i64 XB, .slice ao n cp] 24) = w1 at *
  obtain ⟨x0, x1, x2, x3, xf⟩ := own4 oX
  go_wp2_with fail
  refine Calls.mono (MI.out w1 hb0) ?_
  rintro e w2 ⟨rfl, b2⟩
  clear x0 x1 x2 x3 xf
  replace oX := oX.below b2
  replace hb0 := hb0.trans (b2.mono hb0.size)
  clear b2
  obtain ⟨x0, x1, x2, x3, xf⟩ := own4 oX
  go_wp2_with fail
  refine Calls.mono (HP.out w2) ?_
  rintro e w3 ⟨pa, m, c, rfl, ⟨hm, hpl⟩, b3⟩
  clear x0 x1 x2 x3 xf
  replace oX := oX.below b3
  replace hb0 := hb0.trans (b3.mono hb0.size)
  clear b3
  obtain ⟨x0, x1, x2, x3, xf⟩ := own4 oX
  have hm0 : m = 0 := hm
  subst hm0
  clear hm hpl
  go_wp2_with fail
  go_rounds 1
  go_ret
  exact ⟨ret_int (by first | rfl | omega | (unfold wrap64; omega)), hb0⟩
set_option maxHeartbeats 2000000 in
set_option maxRecDepth 100000 in
theorem rsize_1 {w : World} {x : In} {ao : Option Addr} {cp : Nat} (hl : InLies w x ao) (n : Nat) (hn : n = x.arms.length) (hmx : n ≤ 1000000) (hok : x.ok = true) (l : Lay) (k : Nm) (hlay : lay x.op = some l) (hps : prt x.op = [k]) (hop : x.op ≠ 49) (S : Int) (hk8 : k.sz ≤ 8) (hS : S = 1 + (k.sz : Int)) :
    Calls Tryd.prog 14 #[insV x (.slice ao n cp)] w fun e w' => e = .returned (.int .i64 S) ∧ Below w.heap.size w w' := by
  have oX := Own.new w #[.int .u8 (x.op : Int), .int .i64 x.a, .int .i64 x.b, .slice ao n cp] 24
  have hb0 := new_below w (.cells #[.int .u8 (x.op : Int), .int .i64 x.a, .int .i64 x.b, .slice ao n cp] 24)
  have MI : Hid (∀ W, Below w.heap.size w W → Calls Tryd.prog 33 #[.agg #[.int .u8 (x.op : Int), .int .i64 x.a, .int .i64 x.b, .slice ao n cp]] W fun e w' => e = .returned (.bool true) ∧ Below W.heap.size W w') := fun W h => by
    have := ris_as (cp := cp) (hl.below h) n hn hmx
    rw [hok] at this
    exact this
  have HP : Hid (∀ W, Calls Tryd.prog 34 #[.int .u8 (x.op : Int)] W (RpRet [k] true W)) := by
    intro W
    have := rparts_as x.op hl.op W
    rw [hps, hlay] at this
    exact this
  have h49 : ((x.op : Int) == 49) = false := by rw [beq_eq_false_iff_ne]; omega
  have hzk : 0 ≤ (k.sz : Int) ∧ (k.sz : Int) ≤ 8 := by omega
  unfold insV
  generalize (x.op : Int) = N at *
  generalize x.a = XA at *
  generalize x.b = XB at *
  clear hl hn hok hps hlay hop hk8
  go_enter Tryd.func14, Tryd.ntmps14
  go_upto_region 1 with fail
  generalize w.alloc (.cells #[.int .u8 N, .int .i64 XA, .int .i64 XB, .slice ao n cp] 24) = w1 at *
  obtain ⟨x0, x1, x2, x3, xf⟩ := own4 oX
  go_wp2_with fail
  refine Calls.mono (MI.out w1 hb0) ?_
  rintro e w2 ⟨rfl, b2⟩
  clear x0 x1 x2 x3 xf
  replace oX := oX.below b2
  replace hb0 := hb0.trans (b2.mono hb0.size)
  clear b2
  obtain ⟨x0, x1, x2, x3, xf⟩ := own4 oX
  go_wp2_with fail
  refine Calls.mono (HP.out w2) ?_
  rintro e w3 ⟨pa, m, c, rfl, ⟨hm, hpl⟩, b3⟩
  clear x0 x1 x2 x3 xf
  replace oX := oX.below b3
  replace hb0 := hb0.trans (b3.mono hb0.size)
  clear b3
  obtain ⟨x0, x1, x2, x3, xf⟩ := own4 oX
  have hm0 : m = 1 := hm
  subst hm0
  obtain ⟨pb, rfl, oP⟩ := hpl.resolve_left (by simp)
  have oP : Own w3 pb #[.int .i64 (k.sz : Int), .int .i64 k.lo, .int .i64 k.hi, .bool k.sg] 67 := oP
  clear hm hpl
  generalize (k.sz : Int) = z at *
  generalize k.lo = lo at *
  generalize k.hi = hi at *
  generalize k.sg = sg at *
  obtain ⟨p0, p1, p2, p3, pf⟩ := own4 oP
  go_wp2_with fail
  go_rounds 2
  go_ret
  exact ⟨ret_int (by first | rfl | omega | (unfold wrap64; omega)), hb0⟩
set_option maxHeartbeats 2000000 in
set_option maxRecDepth 100000 in
theorem rsize_2 {w : World} {x : In} {ao : Option Addr} {cp : Nat} (hl : InLies w x ao) (n : Nat) (hn : n = x.arms.length) (hmx : n ≤ 1000000) (hok : x.ok = true) (l : Lay) (k j : Nm) (hlay : lay x.op = some l) (hps : prt x.op = [k, j]) (hop : x.op ≠ 49) (S : Int) (hk8 : k.sz ≤ 8) (hj8 : j.sz ≤ 8) (hS : S = 1 + (k.sz : Int) + (j.sz : Int)) :
    Calls Tryd.prog 14 #[insV x (.slice ao n cp)] w fun e w' => e = .returned (.int .i64 S) ∧ Below w.heap.size w w' := by
  have oX := Own.new w #[.int .u8 (x.op : Int), .int .i64 x.a, .int .i64 x.b, .slice ao n cp] 24
  have hb0 := new_below w (.cells #[.int .u8 (x.op : Int), .int .i64 x.a, .int .i64 x.b, .slice ao n cp] 24)
  have MI : Hid (∀ W, Below w.heap.size w W → Calls Tryd.prog 33 #[.agg #[.int .u8 (x.op : Int), .int .i64 x.a, .int .i64 x.b, .slice ao n cp]] W fun e w' => e = .returned (.bool true) ∧ Below W.heap.size W w') := fun W h => by
    have := ris_as (cp := cp) (hl.below h) n hn hmx
    rw [hok] at this
    exact this
  have HP : Hid (∀ W, Calls Tryd.prog 34 #[.int .u8 (x.op : Int)] W (RpRet [k, j] true W)) := by
    intro W
    have := rparts_as x.op hl.op W
    rw [hps, hlay] at this
    exact this
  have h49 : ((x.op : Int) == 49) = false := by rw [beq_eq_false_iff_ne]; omega
  have hzk : 0 ≤ (k.sz : Int) ∧ (k.sz : Int) ≤ 8 := by omega
  have hzj : 0 ≤ (j.sz : Int) ∧ (j.sz : Int) ≤ 8 := by omega
  unfold insV
  generalize (x.op : Int) = N at *
  generalize x.a = XA at *
  generalize x.b = XB at *
  clear hl hn hok hps hlay hop hk8 hj8
  go_enter Tryd.func14, Tryd.ntmps14
  go_upto_region 1 with fail
  generalize w.alloc (.cells #[.int .u8 N, .int .i64 XA, .int .i64 XB, .slice ao n cp] 24) = w1 at *
  obtain ⟨x0, x1, x2, x3, xf⟩ := own4 oX
  go_wp2_with fail
  refine Calls.mono (MI.out w1 hb0) ?_
  rintro e w2 ⟨rfl, b2⟩
  clear x0 x1 x2 x3 xf
  replace oX := oX.below b2
  replace hb0 := hb0.trans (b2.mono hb0.size)
  clear b2
  obtain ⟨x0, x1, x2, x3, xf⟩ := own4 oX
  go_wp2_with fail
  refine Calls.mono (HP.out w2) ?_
  rintro e w3 ⟨pa, m, c, rfl, ⟨hm, hpl⟩, b3⟩
  clear x0 x1 x2 x3 xf
  replace oX := oX.below b3
  replace hb0 := hb0.trans (b3.mono hb0.size)
  clear b3
  obtain ⟨x0, x1, x2, x3, xf⟩ := own4 oX
  have hm0 : m = 2 := hm
  subst hm0
  obtain ⟨pb, rfl, oP⟩ := hpl.resolve_left (by simp)
  have oP : Own w3 pb #[.int .i64 (k.sz : Int), .int .i64 k.lo, .int .i64 k.hi, .bool k.sg, .int .i64 (j.sz : Int), .int .i64 j.lo, .int .i64 j.hi, .bool j.sg] 67 := oP
  clear hm hpl
  generalize (k.sz : Int) = z at *
  generalize k.lo = lo at *
  generalize k.hi = hi at *
  generalize k.sg = sg at *
  generalize (j.sz : Int) = z' at *
  generalize j.lo = lo' at *
  generalize j.hi = hi' at *
  generalize j.sg = sg' at *
  obtain ⟨p0, p1, p2, p3, p4, p5, p6, p7, pf⟩ := own8 oP
  go_wp2_with fail
  go_rounds 3
  go_ret
  exact ⟨ret_int (by first | rfl | omega | (unfold wrap64; omega)), hb0⟩
set_option maxHeartbeats 2000000 in
set_option maxRecDepth 100000 in
theorem rsize_49 {w : World} {x : In} {ao : Option Addr} {cp : Nat} (hl : InLies w x ao) (n : Nat) (hn : n = x.arms.length) (hmx : n ≤ 1000000) (hok : x.ok = true) (l : Lay) (hlay : lay x.op = some l) (hps : prt x.op = [nWidth]) (hop : x.op = 49) (S : Int) (hS : S = 8 + 12 * (n : Int)) :
    Calls Tryd.prog 14 #[insV x (.slice ao n cp)] w fun e w' => e = .returned (.int .i64 S) ∧ Below w.heap.size w w' := by
  have oX := Own.new w #[.int .u8 (x.op : Int), .int .i64 x.a, .int .i64 x.b, .slice ao n cp] 24
  have hb0 := new_below w (.cells #[.int .u8 (x.op : Int), .int .i64 x.a, .int .i64 x.b, .slice ao n cp] 24)
  have MI : Hid (∀ W, Below w.heap.size w W → Calls Tryd.prog 33 #[.agg #[.int .u8 (x.op : Int), .int .i64 x.a, .int .i64 x.b, .slice ao n cp]] W fun e w' => e = .returned (.bool true) ∧ Below W.heap.size W w') := fun W h => by
    have := ris_as (cp := cp) (hl.below h) n hn hmx
    rw [hok] at this
    exact this
  have HP : Hid (∀ W, Calls Tryd.prog 34 #[.int .u8 (x.op : Int)] W (RpRet [nWidth] true W)) := by
    intro W
    have := rparts_as x.op hl.op W
    rw [hps, hlay] at this
    exact this
  have e49 : (x.op : Int) = 49 := by rw [hop]; rfl
  unfold insV
  generalize (x.op : Int) = N at *
  generalize x.a = XA at *
  generalize x.b = XB at *
  clear hl hn hok hps hlay hop
  subst e49
  go_enter Tryd.func14, Tryd.ntmps14
  go_upto_region 1 with fail
  generalize w.alloc (.cells #[.int .u8 49, .int .i64 XA, .int .i64 XB, .slice ao n cp] 24) = w1 at *
  obtain ⟨x0, x1, x2, x3, xf⟩ := own4 oX
  go_wp2_with fail
  refine Calls.mono (MI.out w1 hb0) ?_
  rintro e w2 ⟨rfl, b2⟩
  clear x0 x1 x2 x3 xf
  replace oX := oX.below b2
  replace hb0 := hb0.trans (b2.mono hb0.size)
  clear b2
  obtain ⟨x0, x1, x2, x3, xf⟩ := own4 oX
  go_wp2_with fail
  refine Calls.mono (HP.out w2) ?_
  rintro e w3 ⟨pa, m, c, rfl, ⟨hm, hpl⟩, b3⟩
  clear x0 x1 x2 x3 xf
  replace oX := oX.below b3
  replace hb0 := hb0.trans (b3.mono hb0.size)
  clear b3
  obtain ⟨x0, x1, x2, x3, xf⟩ := own4 oX
  have hm0 : m = 1 := hm
  subst hm0
  obtain ⟨pb, rfl, oP⟩ := hpl.resolve_left (by simp)
  have oP : Own w3 pb #[.int .i64 (nWidth.sz : Int), .int .i64 nWidth.lo, .int .i64 nWidth.hi, .bool nWidth.sg] 67 := oP
  clear hm hpl
  have oP : Own w3 pb #[.int .i64 1, .int .i64 1, .int .i64 3, .bool false] 67 := oP
  obtain ⟨p0, p1, p2, p3, pf⟩ := own4 oP
  go_wp2_with fail
  go_rounds 2
  go_ret
  exact ⟨ret_int (by first | rfl | omega | (unfold wrap64; omega)), hb0⟩
theorem rsize_as {w : World} {x : In} {ao : Option Addr} {cp : Nat} (hl : InLies w x ao) (n : Nat) (hn : n = x.arms.length) (hmx : n ≤ 1000000) :
    Calls Tryd.prog 14 #[insV x (.slice ao n cp)] w fun e w' => e = .returned (.int .i64 (x.size : Int)) ∧ Below w.heap.size w w' := by
  cases hok : x.ok with
  | false =>
    have e : x.size = 0 := by
      have := size_pos x
      rw [hok] at this
      have h : ¬ 0 < x.size := fun q => by cases this.2 q
      omega
    rw [e]
    exact rsize_no hl n hn hmx hok
  | true =>
    cases h : lay x.op with
    | none => unfold In.ok at hok; rw [h] at hok; cases hok
    | some l =>
      have hsz : x.size = l.size n := by
        unfold In.size
        unfold In.ok at hok
        rw [h] at hok ⊢
        show (if l.has x = true then l.size x.arms.length else 0) = _
        rw [if_pos hok, hn]
      obtain ⟨hlk, -⟩ := lay_ok h
      have h8a := hlk.a.sz
      have h8b := hlk.b.sz
      have hsz2 : (x.size : Int) = 1 + (l.a.sz : Int) + (l.b.sz : Int) + (if l.arms = true then 2 + (n : Int) * 12 else 0) := by
        rw [hsz]; unfold Lay.size; split <;> simp
      rcases lay_shape h with ⟨h49, rfl⟩ | ⟨hne, har, hs⟩
      · refine rsize_49 hl n hn hmx hok _ h (by unfold prt; rw [h]; rfl) h49 _ ?_
        rw [hsz2]
        show 1 + 1 + 4 + (if true = true then 2 + (n : Int) * 12 else 0) = _
        rw [if_pos rfl]; omega
      · rw [har, if_neg (by simp)] at hsz2
        rcases hs with ⟨ha, hb⟩ | ⟨ha, hb⟩ | ⟨ha, hb⟩
        · refine rsize_0 hl n hn hmx hok l h (by unfold prt; rw [h]; show (if l.arms = true then _ else if l.a.sz = 0 then _ else _) = _; rw [har, if_neg (by simp), ha]; rfl) hne _ ?_
          rw [hsz2, ha, hb]; rfl
        · refine rsize_1 hl n hn hmx hok l l.a h (by unfold prt; rw [h]; show (if l.arms = true then _ else if l.a.sz = 0 then _ else if l.b.sz = 0 then _ else _) = _; rw [har, if_neg (by simp), if_neg (by omega), hb]; rfl) hne _ h8a ?_
          rw [hsz2, hb]; show 1 + (l.a.sz : Int) + 0 + 0 = _; omega
        · refine rsize_2 hl n hn hmx hok l l.a l.b h (by unfold prt; rw [h]; show (if l.arms = true then _ else if l.a.sz = 0 then _ else if l.b.sz = 0 then _ else _) = _; rw [har, if_neg (by simp), if_neg (by omega), if_neg (by omega)]) hne _ h8a h8b ?_
          rw [hsz2]; omega
end Go.Proofs.YtffnlcamobekoaaDoor
