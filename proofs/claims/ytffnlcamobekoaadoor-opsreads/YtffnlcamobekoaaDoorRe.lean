/-
  CONTRACTS of the document's Encode.
-/
import Derived.Test.YtffnlcamobekoaaDoorRz
import Derived.StillTailTactics
namespace Go.Proofs.YtffnlcamobekoaaDoor
open Go.RowKit
set_option linter.unusedVariables false

/-- Where the document's writing stands: what it keeps since W0; its row. -/
structure ESt (w W0 W : World) (v : Value) (ys : List Nat) : Prop where
  keep : ∀ g cs t, Own W0 g cs t → t ≠ 5 → Own W g cs t
  row : Rw W 5 1 v ys.length (nums ys)
  new : ∀ b, v.ownBlock = some b → w.heap.size ≤ b
  bel : Below w.heap.size w W
theorem ESt.drew {w W0 W : World} {v : Value} {ys : List Nat} (h : ESt w W0 W v ys) : ESt w W0 W.drew v ys := ⟨fun g cs t a b => h.keep g cs t a b, h.row, h.new, ⟨h.bel.os, h.bel.tape, h.bel.output, h.bel.size, h.bel.block⟩⟩
theorem ESt.put {w W0 W : World} {v : Value} {ys zs : List Nat} {e : Ending} {W' : World} (h : ESt w W0 W v ys) (hp : PutRet W v zs e W') : ∃ a m c, e = .returned (.slice a m c) ∧ ESt w W0 W' (.slice a m c) zs := by
  obtain ⟨v', rfl, h1, h2, h3⟩ := hp
  obtain ⟨a, c, rfl, -⟩ := h1.shape
  refine ⟨a, _, c, rfl, fun g cs t q1 q2 => (h.keep g cs t q1 q2).fr h3 (h.row.ne (h.keep g cs t q1 q2) (Ne.symm q2)), h1, ?_, ?_⟩
  · intro b hb
    rcases h2 b hb with q | q
    · exact h.new b q
    · exact Nat.le_trans h.bel.size q
  · refine ⟨h3.os.trans h.bel.os, h3.tape.trans h.bel.tape, h3.output.trans h.bel.output, Nat.le_trans h.bel.size h3.size, fun k hk => ?_⟩
    exact (h3.block k (Nat.lt_of_lt_of_le hk h.bel.size) (fun q => by have := h.new k q; omega)).trans (h.bel.block k hk)
theorem ESt.start {w W : World} (hb : Below w.heap.size w W) (op : Nat) : ESt w (W.alloc (.cells #[.int .u8 (op : Int)] 5)) (W.alloc (.cells #[.int .u8 (op : Int)] 5)) (.slice (some ⟨W.heap.size, 0, none⟩) 1 1) [op] := by
  refine ⟨fun g cs t h _ => h, ⟨rfl, .inr ⟨W.heap.size, 1, #[.int .u8 (op : Int)], rfl, Nat.zero_le _, heap_alloc_new W _, Nat.le_refl _, by decide, rfl, rfl⟩⟩, ?_, hb.alloc hb.size _⟩
  intro b q
  cases q
  exact hb.size
theorem ESt.ret {w W0 W : World} {x : In} {v : Value} {ys : List Nat} (h : ESt w W0 W v ys) (he : ys = x.enc) (hok : x.ok = true) {e : Ending} (hr : e = .returned (.tuple #[v, .int .i64 0])) : EncRet w x e W := by
  subst he
  refine ⟨v, ?_, h.row, h.new, h.bel⟩
  rw [hr, hok]; rfl
set_option maxHeartbeats 2000000 in
set_option maxRecDepth 100000 in
theorem renc_no {w : World} {x : In} {ao : Option Addr} {cp : Nat} (hl : InLies w x ao) (n : Nat) (hn : n = x.arms.length) (hmx : n ≤ 1000000) (hok : x.ok = false) :
    Calls Tryd.prog 11 #[insV x (.slice ao n cp)] w (EncRet w x) := by
  have oX := Own.new w #[.int .u8 (x.op : Int), .int .i64 x.a, .int .i64 x.b, .slice ao n cp] 24
  have hb0 := new_below w (.cells #[.int .u8 (x.op : Int), .int .i64 x.a, .int .i64 x.b, .slice ao n cp] 24)
  have MI : Hid (∀ W, Below w.heap.size w W → Calls Tryd.prog 33 #[.agg #[.int .u8 (x.op : Int), .int .i64 x.a, .int .i64 x.b, .slice ao n cp]] W fun e w' => e = .returned (.bool false) ∧ Below W.heap.size W w') := fun W h => by
    have := ris_as (cp := cp) (hl.below h) n hn hmx
    rw [hok] at this
    exact this
  unfold insV
  generalize (x.op : Int) = N at *
  generalize x.a = XA at *
  generalize x.b = XB at *
  have HE : Hid (∀ e w', e = .returned (.tuple #[.slice none 0 0, .int .i64 120]) → Below w.heap.size w w' → EncRet w x e w') := fun e w' a b => enc_none hok a b
  clear hl hn hok
  go_enter Tryd.func11, Tryd.ntmps11
  go_upto_region 1 with fail
  generalize w.alloc (.cells #[.int .u8 N, .int .i64 XA, .int .i64 XB, .slice ao n cp] 24) = w1 at *
  obtain ⟨x0, x1, x2, x3, xf⟩ := own4 oX
  go_wp2_with fail
  refine Calls.mono (MI.out w1 hb0) ?_
  rintro e w2 ⟨rfl, b2⟩
  clear x0 x1 x2 x3 xf
  replace oX := oX.below b2
  replace hb0 := hb0.trans (b2.mono hb0.size)
  clear b2
  obtain ⟨x0, x1, x2, x3, xf⟩ := own4 oX
  go_wp2
  go_ret2
  exact HE.out _ _ rfl hb0
set_option maxHeartbeats 2000000 in
set_option maxRecDepth 100000 in
theorem renc_0 {w : World} {x : In} {ao : Option Addr} {cp : Nat} (hl : InLies w x ao) (n : Nat) (hn : n = x.arms.length) (hmx : n ≤ 1000000) (hok : x.ok = true) (l : Lay) (hlay : lay x.op = some l) (hps : prt x.op = []) (hop : x.op ≠ 49) (henc : x.enc = [x.op]) :
    Calls Tryd.prog 11 #[insV x (.slice ao n cp)] w (EncRet w x) := by
  have oX := Own.new w #[.int .u8 (x.op : Int), .int .i64 x.a, .int .i64 x.b, .slice ao n cp] 24
  have hb0 := new_below w (.cells #[.int .u8 (x.op : Int), .int .i64 x.a, .int .i64 x.b, .slice ao n cp] 24)
  have MI : Hid (∀ W, Below w.heap.size w W → Calls Tryd.prog 33 #[.agg #[.int .u8 (x.op : Int), .int .i64 x.a, .int .i64 x.b, .slice ao n cp]] W fun e w' => e = .returned (.bool true) ∧ Below W.heap.size W w') := fun W h => by
    have := ris_as (cp := cp) (hl.below h) n hn hmx
    rw [hok] at this
    exact this
  have HP : Hid (∀ W, Calls Tryd.prog 34 #[.int .u8 (x.op : Int)] W (RpRet [] true W)) := by
    intro W
    have := rparts_as x.op hl.op W
    rw [hps, hlay] at this
    exact this
  have h49 : ((x.op : Int) == 49) = false := by rw [beq_eq_false_iff_ne]; omega
  have HRET : Hid (∀ W0 W v ys e, ESt w W0 W v ys → ys = [x.op] → e = .returned (.tuple #[v, .int .i64 0]) → EncRet w x e W) := fun W0 W v ys e h q r => h.ret (q.trans henc.symm) hok r
  unfold insV
  have HOPN : Hid ((x.op : Int) = (x.op : Int)) := rfl
  obtain ⟨N, hN⟩ : ∃ N, (x.op : Int) = N := ⟨_, rfl⟩
  rw [hN] at HOPN h49 oX hb0 MI HP ⊢
  replace HOPN : Hid ((x.op : Int) = N) := hN
  clear hN
  obtain ⟨XA, hXA⟩ : ∃ XA, x.a = XA := ⟨_, rfl⟩
  rw [hXA] at oX hb0 MI ⊢
  try rw [hXA] at HRET
  clear hXA
  obtain ⟨XB, hXB⟩ : ∃ XB, x.b = XB := ⟨_, rfl⟩
  rw [hXB] at oX hb0 MI ⊢
  try rw [hXB] at HRET
  clear hXB
  clear hl hn hok hps hlay hop henc
  go_enter Tryd.func11, Tryd.ntmps11
  go_upto_region 1 with fail
  generalize w.alloc (.cells #[.int .u8 N, .int .i64 XA, .int .i64 XB, .slice ao n cp] 24) = w1 at *
  obtain ⟨x0, x1, x2, x3, xf⟩ := own4 oX
  go_wp2_with fail
  refine Calls.mono (MI.out w1 hb0) ?_
  rintro e w2 ⟨rfl, b2⟩
  clear x0 x1 x2 x3 xf
  replace oX := oX.below b2
  replace hb0 := hb0.trans (b2.mono hb0.size)
  clear b2
  obtain ⟨x0, x1, x2, x3, xf⟩ := own4 oX
  go_wp2_with fail
  refine Calls.mono (HP.out w2) ?_
  rintro e w3 ⟨pa, m, c, rfl, ⟨hm, hpl⟩, b3⟩
  clear x0 x1 x2 x3 xf
  replace oX := oX.below b3
  replace hb0 := hb0.trans (b3.mono hb0.size)
  clear b3
  obtain ⟨x0, x1, x2, x3, xf⟩ := own4 oX
  have hm0 : m = 0 := hm
  subst hm0
  clear hm hpl
  have E0 := ESt.start (w := w) hb0 x.op
  rw [HOPN.out] at E0
  have oXa := oX.alloc (.cells #[.int .u8 N] 5)
  clear x0 x1 x2 x3 xf
  obtain ⟨x0, x1, x2, x3, xf⟩ := own4 oX
  go_upto_region 5 with fail
  generalize w3.alloc (.cells #[.int .u8 N] 5) = w4 at *
  clear x0 x1 x2 x3 xf
  obtain ⟨x0, x1, x2, x3, xf⟩ := own4 oXa
  go_wp2
  go_ret2
  exact HRET.out _ _ _ _ _ E0 rfl rfl
set_option maxHeartbeats 2000000 in
set_option maxRecDepth 100000 in
theorem renc_1 {w : World} {x : In} {ao : Option Addr} {cp : Nat} (hl : InLies w x ao) (n : Nat) (hn : n = x.arms.length) (hmx : n ≤ 1000000) (hok : x.ok = true) (l : Lay) (k : Nm) (hlay : lay x.op = some l) (hps : prt x.op = [k]) (hop : x.op ≠ 49) (hk8 : k.sz ≤ 8) (henc : x.enc = [x.op] ++ k.put x.a) :
    Calls Tryd.prog 11 #[insV x (.slice ao n cp)] w (EncRet w x) := by
  have oX := Own.new w #[.int .u8 (x.op : Int), .int .i64 x.a, .int .i64 x.b, .slice ao n cp] 24
  have hb0 := new_below w (.cells #[.int .u8 (x.op : Int), .int .i64 x.a, .int .i64 x.b, .slice ao n cp] 24)
  have MI : Hid (∀ W, Below w.heap.size w W → Calls Tryd.prog 33 #[.agg #[.int .u8 (x.op : Int), .int .i64 x.a, .int .i64 x.b, .slice ao n cp]] W fun e w' => e = .returned (.bool true) ∧ Below W.heap.size W w') := fun W h => by
    have := ris_as (cp := cp) (hl.below h) n hn hmx
    rw [hok] at this
    exact this
  have HP : Hid (∀ W, Calls Tryd.prog 34 #[.int .u8 (x.op : Int)] W (RpRet [k] true W)) := by
    intro W
    have := rparts_as x.op hl.op W
    rw [hps, hlay] at this
    exact this
  have h49 : ((x.op : Int) == 49) = false := by rw [beq_eq_false_iff_ne]; omega
  have HRET : Hid (∀ W0 W v ys e, ESt w W0 W v ys → ys = [x.op] ++ k.put x.a → e = .returned (.tuple #[v, .int .i64 0]) → EncRet w x e W) := fun W0 W v ys e h q r => h.ret (q.trans henc.symm) hok r
  unfold insV
  have HOPN : Hid ((x.op : Int) = (x.op : Int)) := rfl
  obtain ⟨N, hN⟩ : ∃ N, (x.op : Int) = N := ⟨_, rfl⟩
  rw [hN] at HOPN h49 oX hb0 MI HP ⊢
  replace HOPN : Hid ((x.op : Int) = N) := hN
  clear hN
  obtain ⟨XA, hXA⟩ : ∃ XA, x.a = XA := ⟨_, rfl⟩
  rw [hXA] at oX hb0 MI ⊢
  try rw [hXA] at HRET
  clear hXA
  obtain ⟨XB, hXB⟩ : ∃ XB, x.b = XB := ⟨_, rfl⟩
  rw [hXB] at oX hb0 MI ⊢
  try rw [hXB] at HRET
  clear hXB
  clear hl hn hok hps hlay hop henc
  go_enter Tryd.func11, Tryd.ntmps11
  go_upto_region 1 with fail
  generalize w.alloc (.cells #[.int .u8 N, .int .i64 XA, .int .i64 XB, .slice ao n cp] 24) = w1 at *
  obtain ⟨x0, x1, x2, x3, xf⟩ := own4 oX
  go_wp2_with fail
  refine Calls.mono (MI.out w1 hb0) ?_
  rintro e w2 ⟨rfl, b2⟩
  clear x0 x1 x2 x3 xf
  replace oX := oX.below b2
  replace hb0 := hb0.trans (b2.mono hb0.size)
  clear b2
  obtain ⟨x0, x1, x2, x3, xf⟩ := own4 oX
  go_wp2_with fail
  refine Calls.mono (HP.out w2) ?_
  rintro e w3 ⟨pa, m, c, rfl, ⟨hm, hpl⟩, b3⟩
  clear x0 x1 x2 x3 xf
  replace oX := oX.below b3
  replace hb0 := hb0.trans (b3.mono hb0.size)
  clear b3
  obtain ⟨x0, x1, x2, x3, xf⟩ := own4 oX
  have hm0 : m = 1 := hm
  subst hm0
  obtain ⟨pb, rfl, oP⟩ := hpl.resolve_left (by simp)
  have oP : Own w3 pb #[.int .i64 (k.sz : Int), .int .i64 k.lo, .int .i64 k.hi, .bool k.sg] 67 := oP
  clear hm hpl
  have oP := oP
  obtain ⟨p0, p1, p2, p3, pf⟩ := own4 oP
  have E0 := ESt.start (w := w) hb0 x.op
  rw [HOPN.out] at E0
  have oXa := oX.alloc (.cells #[.int .u8 N] 5)
  have oPa := oP.alloc (.cells #[.int .u8 N] 5)
  clear x0 x1 x2 x3 xf p0 p1 p2 p3 pf
  obtain ⟨x0, x1, x2, x3, xf⟩ := own4 oX
  obtain ⟨p0, p1, p2, p3, pf⟩ := own4 oP
  go_upto_region 5 with fail
  generalize w3.alloc (.cells #[.int .u8 N] 5) = w4 at *
  clear x0 x1 x2 x3 xf p0 p1 p2 p3 pf
  obtain ⟨x0, x1, x2, x3, xf⟩ := own4 oXa
  obtain ⟨p0, p1, p2, p3, pf⟩ := own4 oPa
  go_wp2_with fail
  go_still_tail 7, (by kernel_rfl)
  go_wp2_with fail
  refine Calls.mono (rput_as (E0.drew).row XA k.sz hk8 (by first | (simp; done) | (simp [fixN_length]; omega))) ?_
  rintro e W1 q
  obtain ⟨a1, m1, c1, rfl, E1⟩ := (E0.drew).put q
  clear q x0 x1 x2 x3 xf p0 p1 p2 p3 pf
  obtain ⟨x0, x1, x2, x3, xf⟩ := own4 (E1.keep _ _ _ oXa (by decide))
  obtain ⟨p0, p1, p2, p3, pf⟩ := own4 (E1.keep _ _ _ oPa (by decide))
  go_wp2
  go_ret2
  exact HRET.out _ _ _ _ _ E1 rfl rfl
set_option maxHeartbeats 2000000 in
set_option maxRecDepth 100000 in
theorem renc_2 {w : World} {x : In} {ao : Option Addr} {cp : Nat} (hl : InLies w x ao) (n : Nat) (hn : n = x.arms.length) (hmx : n ≤ 1000000) (hok : x.ok = true) (l : Lay) (k j : Nm) (hlay : lay x.op = some l) (hps : prt x.op = [k, j]) (hop : x.op ≠ 49) (hk8 : k.sz ≤ 8) (hj8 : j.sz ≤ 8) (henc : x.enc = ([x.op] ++ k.put x.a) ++ j.put x.b) :
    Calls Tryd.prog 11 #[insV x (.slice ao n cp)] w (EncRet w x) := by
  have oX := Own.new w #[.int .u8 (x.op : Int), .int .i64 x.a, .int .i64 x.b, .slice ao n cp] 24
  have hb0 := new_below w (.cells #[.int .u8 (x.op : Int), .int .i64 x.a, .int .i64 x.b, .slice ao n cp] 24)
  have MI : Hid (∀ W, Below w.heap.size w W → Calls Tryd.prog 33 #[.agg #[.int .u8 (x.op : Int), .int .i64 x.a, .int .i64 x.b, .slice ao n cp]] W fun e w' => e = .returned (.bool true) ∧ Below W.heap.size W w') := fun W h => by
    have := ris_as (cp := cp) (hl.below h) n hn hmx
    rw [hok] at this
    exact this
  have HP : Hid (∀ W, Calls Tryd.prog 34 #[.int .u8 (x.op : Int)] W (RpRet [k, j] true W)) := by
    intro W
    have := rparts_as x.op hl.op W
    rw [hps, hlay] at this
    exact this
  have h49 : ((x.op : Int) == 49) = false := by rw [beq_eq_false_iff_ne]; omega
  have HRET : Hid (∀ W0 W v ys e, ESt w W0 W v ys → ys = ([x.op] ++ k.put x.a) ++ j.put x.b → e = .returned (.tuple #[v, .int .i64 0]) → EncRet w x e W) := fun W0 W v ys e h q r => h.ret (q.trans henc.symm) hok r
  unfold insV
  have HOPN : Hid ((x.op : Int) = (x.op : Int)) := rfl
  obtain ⟨N, hN⟩ : ∃ N, (x.op : Int) = N := ⟨_, rfl⟩
  rw [hN] at HOPN h49 oX hb0 MI HP ⊢
  replace HOPN : Hid ((x.op : Int) = N) := hN
  clear hN
  obtain ⟨XA, hXA⟩ : ∃ XA, x.a = XA := ⟨_, rfl⟩
  rw [hXA] at oX hb0 MI ⊢
  try rw [hXA] at HRET
  clear hXA
  obtain ⟨XB, hXB⟩ : ∃ XB, x.b = XB := ⟨_, rfl⟩
  rw [hXB] at oX hb0 MI ⊢
  try rw [hXB] at HRET
  clear hXB
  clear hl hn hok hps hlay hop henc
  go_enter Tryd.func11, Tryd.ntmps11
  go_upto_region 1 with fail
  generalize w.alloc (.cells #[.int .u8 N, .int .i64 XA, .int .i64 XB, .slice ao n cp] 24) = w1 at *
  obtain ⟨x0, x1, x2, x3, xf⟩ := own4 oX
  go_wp2_with fail
  refine Calls.mono (MI.out w1 hb0) ?_
  rintro e w2 ⟨rfl, b2⟩
  clear x0 x1 x2 x3 xf
  replace oX := oX.below b2
  replace hb0 := hb0.trans (b2.mono hb0.size)
  clear b2
  obtain ⟨x0, x1, x2, x3, xf⟩ := own4 oX
  go_wp2_with fail
  refine Calls.mono (HP.out w2) ?_
  rintro e w3 ⟨pa, m, c, rfl, ⟨hm, hpl⟩, b3⟩
  clear x0 x1 x2 x3 xf
  replace oX := oX.below b3
  replace hb0 := hb0.trans (b3.mono hb0.size)
  clear b3
  obtain ⟨x0, x1, x2, x3, xf⟩ := own4 oX
  have hm0 : m = 2 := hm
  subst hm0
  obtain ⟨pb, rfl, oP⟩ := hpl.resolve_left (by simp)
  have oP : Own w3 pb #[.int .i64 (k.sz : Int), .int .i64 k.lo, .int .i64 k.hi, .bool k.sg, .int .i64 (j.sz : Int), .int .i64 j.lo, .int .i64 j.hi, .bool j.sg] 67 := oP
  clear hm hpl
  obtain ⟨p0, p1, p2, p3, p4, p5, p6, p7, pf⟩ := own8 oP
  have E0 := ESt.start (w := w) hb0 x.op
  rw [HOPN.out] at E0
  have oXa := oX.alloc (.cells #[.int .u8 N] 5)
  have oPa := oP.alloc (.cells #[.int .u8 N] 5)
  clear x0 x1 x2 x3 xf p0 p1 p2 p3 p4 p5 p6 p7 pf
  obtain ⟨x0, x1, x2, x3, xf⟩ := own4 oX
  obtain ⟨p0, p1, p2, p3, p4, p5, p6, p7, pf⟩ := own8 oP
  go_upto_region 5 with fail
  generalize w3.alloc (.cells #[.int .u8 N] 5) = w4 at *
  clear x0 x1 x2 x3 xf p0 p1 p2 p3 p4 p5 p6 p7 pf
  obtain ⟨x0, x1, x2, x3, xf⟩ := own4 oXa
  obtain ⟨p0, p1, p2, p3, p4, p5, p6, p7, pf⟩ := own8 oPa
  go_wp2_with fail
  go_still_tail 7, (by kernel_rfl)
  go_wp2_with fail
  refine Calls.mono (rput_as (E0.drew).row XA k.sz hk8 (by first | (simp; done) | (simp [fixN_length]; omega))) ?_
  rintro e W1 q
  obtain ⟨a1, m1, c1, rfl, E1⟩ := (E0.drew).put q
  clear q x0 x1 x2 x3 xf p0 p1 p2 p3 p4 p5 p6 p7 pf
  obtain ⟨x0, x1, x2, x3, xf⟩ := own4 (E1.keep _ _ _ oXa (by decide))
  obtain ⟨p0, p1, p2, p3, p4, p5, p6, p7, pf⟩ := own8 (E1.keep _ _ _ oPa (by decide))
  go_wp2_with fail
  go_still_tail 7, (by kernel_rfl)
  go_wp2_with fail
  refine Calls.mono (rput_as (E1.drew).row XB j.sz hj8 (by first | (simp; done) | (simp [fixN_length]; omega))) ?_
  rintro e W2 q
  obtain ⟨a2, m2, c2, rfl, E2⟩ := (E1.drew).put q
  clear q x0 x1 x2 x3 xf p0 p1 p2 p3 p4 p5 p6 p7 pf
  obtain ⟨x0, x1, x2, x3, xf⟩ := own4 (E2.keep _ _ _ oXa (by decide))
  obtain ⟨p0, p1, p2, p3, p4, p5, p6, p7, pf⟩ := own8 (E2.keep _ _ _ oPa (by decide))
  go_wp2
  go_ret2
  exact HRET.out _ _ _ _ _ E2 rfl rfl
theorem ESt.cast {w W0 W : World} {v : Value} {ys zs : List Nat} (h : ESt w W0 W v ys) (e : ys = zs) : ESt w W0 W v zs := e ▸ h
def pfx (XA : Int) (n : Nat) : List Nat := ([49] ++ fixN (XA % 18446744073709551616).toNat 1) ++ fixN ((n : Int) % 18446744073709551616).toNat 2
def zsK (XA : Int) (n : Nat) (ar : List (Int × Int)) (k : Nat) : List Nat := pfx XA n ++ ((ar.take k).map putArm).flatten
theorem zsK_length (XA : Int) (n : Nat) (ar : List (Int × Int)) (k : Nat) (h : k ≤ ar.length) : (zsK XA n ar k).length = 4 + k * 12 := by
  unfold zsK pfx
  rw [List.length_append, putArms_flat, List.length_append, List.length_append, fixN_length, fixN_length, List.length_take, Nat.min_eq_left h]; rfl
theorem zsK_succ (XA : Int) (n : Nat) (ar : List (Int × Int)) (k : Nat) (h : k < ar.length) (V : Int × Int) (hV : ar.getD k (0, 0) = V) : (zsK XA n ar k ++ fixN (V.1 % 18446744073709551616).toNat 8) ++ fixN (V.2 % 18446744073709551616).toNat 4 = zsK XA n ar (k + 1) := by
  have e : ar.take (k + 1) = ar.take k ++ [V] := by rw [List.take_succ_eq_append_getElem h]; congr 2; rw [← hV]; simp [List.getD, h]
  unfold zsK
  rw [e, List.map_append, List.flatten_append, List.append_assoc, List.append_assoc]
  first | (congr 1; simp [putArm, Nm.put, nI64, nPlace]; done) | simp [putArm, Nm.put, nI64, nPlace] | rfl
set_option maxHeartbeats 2000000 in
set_option maxRecDepth 100000 in
theorem renc_49 {w : World} {x : In} {ao : Option Addr} {cp : Nat} (hl : InLies w x ao) (n : Nat) (hn : n = x.arms.length) (hmx : n ≤ 1000000) (hok : x.ok = true) (l : Lay) (hlay : lay x.op = some l) (hps : prt x.op = [nWidth]) (hop : x.op = 49) (h65 : n ≤ 65535) (henc : x.enc = zsK x.a n x.arms n ++ fixN (x.b % 18446744073709551616).toNat 4) :
    Calls Tryd.prog 11 #[insV x (.slice ao n cp)] w (EncRet w x) := by
  have oX := Own.new w #[.int .u8 (x.op : Int), .int .i64 x.a, .int .i64 x.b, .slice ao n cp] 24
  have hb0 := new_below w (.cells #[.int .u8 (x.op : Int), .int .i64 x.a, .int .i64 x.b, .slice ao n cp] 24)
  have MI : Hid (∀ W, Below w.heap.size w W → Calls Tryd.prog 33 #[.agg #[.int .u8 (x.op : Int), .int .i64 x.a, .int .i64 x.b, .slice ao n cp]] W fun e w' => e = .returned (.bool true) ∧ Below W.heap.size W w') := fun W h => by
    have := ris_as (cp := cp) (hl.below h) n hn hmx
    rw [hok] at this
    exact this
  have HP : Hid (∀ W, Calls Tryd.prog 34 #[.int .u8 (x.op : Int)] W (RpRet [nWidth] true W)) := by
    intro W
    have := rparts_as x.op hl.op W
    rw [hps, hlay] at this
    exact this
  have e49 : (x.op : Int) = 49 := by rw [hop]; rfl
  have HLi : Hid (∀ W, Below w.heap.size w W → ArmLies W ao x.arms) := fun W h => hl.arms.below h
  have HN : Hid (n = x.arms.length) := hn
  have HRET : Hid (∀ W0 W v ys e, ESt w W0 W v ys → ys = zsK x.a n x.arms n ++ fixN (x.b % 18446744073709551616).toNat 4 → e = .returned (.tuple #[v, .int .i64 0]) → EncRet w x e W) := fun W0 W v ys e h q r => h.ret (q.trans henc.symm) hok r
  unfold insV
  obtain ⟨N, hN⟩ : ∃ N, (x.op : Int) = N := ⟨_, rfl⟩
  rw [hN] at e49 oX hb0 MI HP ⊢
  clear hN
  obtain ⟨XA, hXA⟩ : ∃ XA, x.a = XA := ⟨_, rfl⟩
  rw [hXA] at oX hb0 MI HRET ⊢
  clear hXA
  obtain ⟨XB, hXB⟩ : ∃ XB, x.b = XB := ⟨_, rfl⟩
  rw [hXB] at oX hb0 MI HRET ⊢
  clear hXB
  obtain ⟨ar, har⟩ : ∃ ar, x.arms = ar := ⟨_, rfl⟩
  rw [har] at HLi HN HRET
  clear har
  clear hl hn hok hps hlay hop henc
  subst e49
  go_enter Tryd.func11, Tryd.ntmps11
  go_upto_region 1 with fail
  generalize w.alloc (.cells #[.int .u8 49, .int .i64 XA, .int .i64 XB, .slice ao n cp] 24) = w1 at *
  obtain ⟨x0, x1, x2, x3, xf⟩ := own4 oX
  go_wp2_with fail
  refine Calls.mono (MI.out w1 hb0) ?_
  rintro e w2 ⟨rfl, b2⟩
  clear x0 x1 x2 x3 xf
  replace oX := oX.below b2
  replace hb0 := hb0.trans (b2.mono hb0.size)
  clear b2
  obtain ⟨x0, x1, x2, x3, xf⟩ := own4 oX
  go_wp2_with fail
  refine Calls.mono (HP.out w2) ?_
  rintro e w3 ⟨pa, m, c, rfl, ⟨hm, hpl⟩, b3⟩
  clear x0 x1 x2 x3 xf
  replace oX := oX.below b3
  replace hb0 := hb0.trans (b3.mono hb0.size)
  clear b3
  obtain ⟨x0, x1, x2, x3, xf⟩ := own4 oX
  have hm0 : m = 1 := hm
  subst hm0
  obtain ⟨pb, rfl, oP⟩ := hpl.resolve_left (by simp)
  have oP : Own w3 pb #[.int .i64 (nWidth.sz : Int), .int .i64 nWidth.lo, .int .i64 nWidth.hi, .bool nWidth.sg] 67 := oP
  clear hm hpl
  have oP : Own w3 pb #[.int .i64 1, .int .i64 1, .int .i64 3, .bool false] 67 := oP
  obtain ⟨p0, p1, p2, p3, pf⟩ := own4 oP
  have E0 : ESt w (w3.alloc (.cells #[.int .u8 49] 5)) (w3.alloc (.cells #[.int .u8 49] 5)) (.slice (some ⟨w3.heap.size, 0, none⟩) 1 1) [49] := ESt.start hb0 49
  have oXa := oX.alloc (.cells #[.int .u8 49] 5)
  have oPa := oP.alloc (.cells #[.int .u8 49] 5)
  clear x0 x1 x2 x3 xf p0 p1 p2 p3 pf
  obtain ⟨x0, x1, x2, x3, xf⟩ := own4 oX
  obtain ⟨p0, p1, p2, p3, pf⟩ := own4 oP
  go_upto_region 5 with fail
  generalize w3.alloc (.cells #[.int .u8 49] 5) = w4 at *
  clear x0 x1 x2 x3 xf p0 p1 p2 p3 pf
  obtain ⟨x0, x1, x2, x3, xf⟩ := own4 oXa
  obtain ⟨p0, p1, p2, p3, pf⟩ := own4 oPa
  go_wp2_with fail
  go_still_tail 7, (by kernel_rfl)
  go_wp2_with fail
  refine Calls.mono (rput_as (E0.drew).row XA 1 (by decide) (by first | (simp; done) | (simp [fixN_length]; omega))) ?_
  rintro e W1 q
  obtain ⟨a1, m1, c1, rfl, E1⟩ := (E0.drew).put q
  clear q x0 x1 x2 x3 xf p0 p1 p2 p3 pf
  obtain ⟨x0, x1, x2, x3, xf⟩ := own4 (E1.keep _ _ _ oXa (by decide))
  obtain ⟨p0, p1, p2, p3, pf⟩ := own4 (E1.keep _ _ _ oPa (by decide))
  clear p0 p1 p2 p3 pf
  go_wp2_with fail
  refine Calls.mono (rput_as E1.row (n : Int) 2 (by decide) (by simp [fixN_length])) ?_
  rintro e W2 q
  obtain ⟨a2, m2, c2, rfl, E2⟩ := E1.put q
  clear q x0 x1 x2 x3 xf
  obtain ⟨x0, x1, x2, x3, xf⟩ := own4 (E2.keep _ _ _ oXa (by decide))
  have REL : Hid (ESt w w4 W2 (.slice a2 m2 c2) (zsK XA n ar 0)) := E2.cast (by simp [zsK, pfx])
  clear E1 E0 E2 x0 x1 x2 x3 xf
  go_wp2_with fail
  go_loopw [6, 7] (fun b i wr => ∃ k : Nat, k ≤ n ∧ i = .int .i64 (k : Int) ∧ ∃ a m c, b = .slice a m c ∧ ESt w w4 wr (.slice a m c) (zsK XA n ar k)) (fun _ i _ => n - (intOf i).toNat)
  case atStart => exact ⟨0, Nat.zero_le _, rfl, a2, m2, c2, rfl, REL.out⟩
  case round =>
    clear REL
    obtain ⟨k, hk, rfl, a3, m3, c3, rfl, E3⟩ := hrel
    obtain ⟨x0, x1, x2, x3, xf⟩ := own4 (E3.keep _ _ _ oXa (by decide))
    have hli := HLi.out wr E3.bel
    by_cases hlt : k < n
    · have hka : k < ar.length := by rw [← HN.out]; exact hlt
      have hzl := zsK_length XA n ar k (by omega)
      rcases hli.lies with h0 | ⟨b, off, rfl, hbl, hc⟩
      · rw [h0] at hka; cases hka
      · obtain ⟨V, hV⟩ : ∃ V, ar.getD k (0, 0) = V := ⟨_, rfl⟩
        have HS : Hid ((zsK XA n ar k ++ fixN (V.1 % 18446744073709551616).toNat 8) ++ fixN (V.2 % 18446744073709551616).toNat 4 = zsK XA n ar (k + 1)) := zsK_succ XA n ar k hka V hV
        obtain ⟨hc1, hc2⟩ := hc k hka
        rw [hV] at hc1 hc2
        have HC : Hid (∀ W, Below w.heap.size w W → W.cell? ⟨b, off + k * 2 + 1, none⟩ = some (.int .i64 V.2)) := fun W hW => by
          rcases (HLi.out W hW).lies with h0 | ⟨b', off', e, _, hc'⟩
          · rw [h0] at hka; cases hka
          · cases e
            have := (hc' k hka).2
            rw [hV] at this
            exact this
        obtain ⟨V1, V2⟩ := V
        simp only at hc1 hc2 HS HC
        have hlt2 : (k : Int) < (n : Int) := by omega
        have hk0 : (0 : Int) ≤ (k : Int) := by omega
        clear hc hV hli
        go_wp2_with fail
        refine Calls.mono (rput_as E3.row V1 8 (by decide) (by rw [hzl]; omega)) ?_
        rintro e W4 q
        obtain ⟨a4, m4, c4, rfl, E4⟩ := E3.put q
        clear q x0 x1 x2 x3 xf
        clear hc1 hc2
        have hc2 := HC.out _ E4.bel
        obtain ⟨x0, x1, x2, x3, xf⟩ := own4 (E4.keep _ _ _ oXa (by decide))
        go_wp2_with fail
        refine Calls.mono (rput_as E4.row V2 4 (by decide) (by rw [List.length_append, fixN_length, hzl]; omega)) ?_
        rintro e W5 q
        obtain ⟨a5, m5, c5, rfl, E5⟩ := E4.put q
        clear q x0 x1 x2 x3 xf
        obtain ⟨x0, x1, x2, x3, xf⟩ := own4 (E5.keep _ _ _ oXa (by decide))
        have E6 := E5.cast HS.out
        clear hc2
        go_wp2
        go_roundw
        case rel => exact ⟨k + 1, hlt, by go_num, a5, m5, c5, rfl, E6⟩
        case measure => simp [intOf]; omega
    · obtain rfl : k = n := by omega
      have hzl := zsK_length XA k ar k (by rw [← HN.out]; exact Nat.le_refl _)
      clear hli
      go_wp2_with fail
      refine Calls.mono (rput_as E3.row XB 4 (by decide) (by rw [hzl]; omega)) ?_
      rintro e W7 q
      obtain ⟨a7, m7, c7, rfl, E7⟩ := E3.put q
      clear q x0 x1 x2 x3 xf
      obtain ⟨x0, x1, x2, x3, xf⟩ := own4 (E7.keep _ _ _ oXa (by decide))
      go_wp2
      go_ret2
      exact HRET.out _ _ _ _ _ E7 rfl rfl
theorem renc_as {w : World} {x : In} {ao : Option Addr} {cp : Nat} (hl : InLies w x ao) (n : Nat) (hn : n = x.arms.length) (hmx : n ≤ 1000000) : Calls Tryd.prog 11 #[insV x (.slice ao n cp)] w (EncRet w x) := by
  cases hok : x.ok with
  | false => exact renc_no hl n hn hmx hok
  | true =>
    cases h : lay x.op with
    | none => unfold In.ok at hok; rw [h] at hok; cases hok
    | some l =>
      have hhas : l.has x = true := by unfold In.ok at hok; rw [h] at hok; exact hok
      have henc : x.enc = x.op :: (l.a.put x.a ++ (l.putArms x.arms ++ l.b.put x.b)) := by
        unfold In.enc
        rw [h]
        show (if l.has x = true then l.put x else []) = _
        rw [if_pos hhas]; rfl
      obtain ⟨hlk, -⟩ := lay_ok h
      have h8a := hlk.a.sz
      have h8b := hlk.b.sz
      have hz : ∀ z : Int, nNone.put z = [] := fun z => rfl
      rcases lay_shape h with ⟨h49, rfl⟩ | ⟨hne, har, hs⟩
      · have h65 : n ≤ 65535 := by
          have := (ok_in hok).2.2.2.2
          omega
        refine renc_49 hl n hn hmx hok _ h (by unfold prt; rw [h]; rfl) h49 h65 ?_
        rw [henc, h49]
        unfold zsK pfx Lay.putArms
        rw [if_pos rfl, hn, List.take_length]
        simp [Nm.put, nWidth, nPlace, nShort]
      · have hpa : l.putArms x.arms = [] := by unfold Lay.putArms; rw [har, if_neg (by simp)]
        rw [hpa, List.nil_append] at henc
        rcases hs with ⟨ha, hb⟩ | ⟨ha, hb⟩ | ⟨ha, hb⟩
        · refine renc_0 hl n hn hmx hok l h (by unfold prt; rw [h]; show (if l.arms = true then _ else if l.a.sz = 0 then _ else _) = _; rw [har, if_neg (by simp), ha]; rfl) hne ?_
          rw [henc, ha, hb]; rfl
        · refine renc_1 hl n hn hmx hok l l.a h (by unfold prt; rw [h]; show (if l.arms = true then _ else if l.a.sz = 0 then _ else if l.b.sz = 0 then _ else _) = _; rw [har, if_neg (by simp), if_neg (by omega), hb]; rfl) hne h8a ?_
          rw [henc, hb, hz, List.append_nil]; rfl
        · refine renc_2 hl n hn hmx hok l l.a l.b h (by unfold prt; rw [h]; show (if l.arms = true then _ else if l.a.sz = 0 then _ else if l.b.sz = 0 then _ else _) = _; rw [har, if_neg (by simp), if_neg (by omega), if_neg (by omega)]) hne h8a h8b ?_
          rw [henc]; rfl
end Go.Proofs.YtffnlcamobekoaaDoor
