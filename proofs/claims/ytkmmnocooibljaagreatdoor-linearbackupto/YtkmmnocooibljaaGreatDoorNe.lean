/-
  An instruction with other targets: the mathematics, the landed Moved, the document's.
-/
import Derived.Test.YtkmmnocooibljaaGreatDoorNd
import Derived.BigRegion
namespace Go.Proofs.YtkmmnocooibljaaGreatDoor
open Go.RowKit
set_option linter.unusedVariables false

def setTo (ar : List (Int × Int)) (tq : List Int) : List (Int × Int) := List.zipWith (fun y t => (y.1, t)) ar tq
def movX (x : In) (tq : List Int) : In × Nat :=
  if tq.length ≠ (tgs x).length then (zI, 2)
  else (if x.op = 46 ∨ x.op = 47 ∨ x.op = 48 then ⟨x.op, tq.getD 0 0, x.b, x.arms⟩ else if x.op = 49 then ⟨x.op, x.a, tq.getD x.arms.length 0, setTo x.arms tq⟩ else x, 0)
theorem setTo_self : ∀ (ar : List (Int × Int)) (t : List Int), setTo ar (ar.map Prod.snd ++ t) = ar
  | [], t => rfl
  | y :: r, t => by
    have := setTo_self r t
    unfold setTo at *
    simp only [List.map_cons, List.cons_append, List.zipWith_cons_cons, this]
theorem movX_self (x : In) : movX x (tgs x) = (x, 0) := by
  obtain ⟨op, a, b, ar⟩ := x
  unfold movX
  rw [if_neg (by simp)]
  unfold tgs
  simp only
  split
  · rfl
  · split
    · rw [setTo_self, List.getD_eq_getElem?_getD, List.getElem?_append_right (by simp)]
      simp
    · rfl
theorem setTo_length {ar : List (Int × Int)} {tq : List Int} (h : ar.length ≤ tq.length) : (setTo ar tq).length = ar.length := by
  unfold setTo; rw [List.length_zipWith]; omega
theorem setTo_get {ar : List (Int × Int)} {tq : List Int} (h : ar.length ≤ tq.length) (i : Nat) (hi : i < ar.length) : (setTo ar tq).getD i (0, 0) = ((ar.getD i (0, 0)).1, tq.getD i 0) := by
  have h2 : i < tq.length := by omega
  simp [setTo, List.getD, List.getElem?_zipWith, hi, h2]
theorem armC_ext {zs : List Value} {l : List (Int × Int)} (hl : zs.length = l.length * 2) (h : ∀ i, i < l.length → zs[i * 2]? = some (.int .i64 (l.getD i (0, 0)).1) ∧ zs[i * 2 + 1]? = some (.int .i64 (l.getD i (0, 0)).2)) : zs = armC l := by
  apply List.ext_getElem?
  intro k
  by_cases hk : k < l.length * 2
  · have hq := h (k / 2) (by omega)
    have hr := armC_get l (k / 2) (by omega)
    rcases (by omega : k = k / 2 * 2 ∨ k = k / 2 * 2 + 1) with e | e
    · rw [e, hq.1, hr.1]
    · rw [e, hq.2, hr.2]
  · rw [List.getElem?_eq_none (by omega), List.getElem?_eq_none (by rw [armC_length]; omega)]
def MvR (w : World) (r : In × Nat) (e : Ending) (w' : World) : Prop :=
  ∃ v, e = .returned (.tuple #[insV r.1 v, .int .i64 (r.2 : Int)]) ∧ Rw w' 51 2 v r.1.arms.length (armC r.1.arms) ∧ (∀ b, v.ownBlock = some b → w.heap.size ≤ b) ∧ Below w.heap.size w w'
theorem mv_out {w w4 w5 : World} {gR : Nat} {Z : Array Value} {X : In} {v : Value} {n : Nat} (hn : X.arms.length = n) (row : Rw w4 51 2 v n (armC X.arms)) (new : ∀ b, v.ownBlock = some b → w.heap.size ≤ b) (bel : Below w.heap.size w w4) (oR : Own w4 gR Z 43) (hg : w.heap.size ≤ gR) (g5 : w4.grownBy w5 (some gR)) :
    MvR w (X, 0) (.returned (.tuple #[insV X v, .int .i64 0])) w5 := by
  refine ⟨v, rfl, ?_, new, bel.grown g5 bel.size (fun k e => by cases e; exact hg)⟩
  show Rw w5 51 2 v X.arms.length (armC X.arms)
  rw [hn]
  exact row.grown g5 (fun k e q => by cases q; exact row.ne oR (by decide) e)
theorem infoIn : (Tryz.prog.info? 43).map (·.size) = some 4 := by kernel_rfl
/-- The arms, so many of them with their new targets. -/
def MixR (w : World) (v : Value) (n : Nat) (ar : List (Int × Int)) (tq : List Int) (k : Nat) : Prop := ∃ zs, Rw w 51 2 v n zs ∧ ∀ i, i < n → zs[i * 2]? = some (.int .i64 (ar.getD i (0, 0)).1) ∧ zs[i * 2 + 1]? = some (.int .i64 (if i < k then tq.getD i 0 else (ar.getD i (0, 0)).2))
theorem MixR.start {w : World} {v : Value} {n : Nat} {ar : List (Int × Int)} (tq : List Int) (hn : n = ar.length) (h : Rw w 51 2 v n (armC ar)) : MixR w v n ar tq 0 := ⟨_, h, fun i hi => by simpa using armC_get ar i (by omega)⟩
theorem MixR.done {w : World} {v : Value} {n : Nat} {ar : List (Int × Int)} {tq : List Int} (hn : n = ar.length) (hl : ar.length ≤ tq.length) (h : MixR w v n ar tq n) : Rw w 51 2 v n (armC (setTo ar tq)) := by
  obtain ⟨zs, hR, hz⟩ := h
  have e : zs = armC (setTo ar tq) := armC_ext (by rw [setTo_length hl, ← hn]; exact hR.1) (fun i hi => by
    rw [setTo_length hl] at hi
    have q := hz i (by omega)
    rw [setTo_get hl i hi]
    rw [if_pos (by omega)] at q
    exact q)
  rw [← e]; exact hR
theorem MixR.next {w : World} {g c n : Nat} {ar : List (Int × Int)} {tq : List Int} {k : Nat} (h : MixR w (.slice (some ⟨g, 0, none⟩) n c) n ar tq k) (hk : k < n) : MixR (w.setCell ⟨g, k * 2 + 1, none⟩ (.int .i64 (tq.getD k 0))) (.slice (some ⟨g, 0, none⟩) n c) n ar tq (k + 1) := by
  obtain ⟨zs, hR, hz⟩ := h
  refine ⟨_, (World.ownsRow.stored hR (k * 2 + 1) (.int .i64 (tq.getD k 0))).1, fun i hi => ⟨?_, ?_⟩⟩
  · rw [List.getElem?_set_ne (by omega)]; exact (hz i hi).1
  · by_cases e : i = k
    · subst e
      rw [List.getElem?_set_self (by have := hR.1; omega), if_pos (by omega)]
    · rw [List.getElem?_set_ne (by omega), (hz i hi).2]
      by_cases h1 : i < k
      · rw [if_pos h1, if_pos (by omega)]
      · rw [if_neg h1, if_neg (by omega)]
theorem MixR.drew {w : World} {v : Value} {n : Nat} {ar : List (Int × Int)} {tq : List Int} {k : Nat} (h : MixR w v n ar tq k) : MixR w.drew v n ar tq k := h
theorem MixR.cell {w : World} {g c n : Nat} {ar : List (Int × Int)} {tq : List Int} {k : Nat} (h : MixR w (.slice (some ⟨g, 0, none⟩) n c) n ar tq k) (hk : k < n) : (∃ u, w.cell? ⟨g, k * 2 + 1, none⟩ = some u) ∧ w.frozen? ⟨g, k * 2 + 1, none⟩ = false := by
  obtain ⟨zs, hR, hz⟩ := h
  have hR2 : w.ownsRow 0 51 2 (.slice (some ⟨g, 0, none⟩) n c) n zs := hR
  exact ⟨⟨_, Rw.cells hR _ _ (hz k hk).2⟩, hR2.frozenAt _⟩
set_option maxHeartbeats 8000000 in
set_option maxRecDepth 100000 in
theorem lnMoved_as {w : World} {x : In} {ao : Option Addr} {cp : Nat} (hl : InLies w x ao) (n : Nat) (hn : n = x.arms.length) (hno : ao = none → cp = 0) (hmx : n ≤ 1000000) {ta : Option Addr} {m tc : Nat} {tq : List Int} (ht : RowAt w ta 1 tq.length (inF tq)) (hm : m = tq.length) (hm2 : m ≤ 1000000) :
    Calls Tryz.prog 30 #[insV x (.slice ao n cp), .slice ta m tc] w (MvR w (movX x tq)) := by
  have HTG : Hid (∀ W, Below w.heap.size w W → Calls Tryz.prog 28 #[insV x (.slice ao n cp)] W (TgR W (tgs x))) := fun W q => lnTargets_as (hl.below q) n hn hmx
  have hmv : movX x tq = if tq.length ≠ (tgs x).length then (zI, 2) else (if x.op = 46 ∨ x.op = 47 ∨ x.op = 48 then ⟨x.op, tq.getD 0 0, x.b, x.arms⟩ else if x.op = 49 then ⟨x.op, x.a, tq.getD x.arms.length 0, setTo x.arms tq⟩ else x, 0) := rfl
  have hTL : (x.op = 46 ∨ x.op = 47 ∨ x.op = 48 → (tgs x).length = 1) ∧ (x.op = 49 → (tgs x).length = x.arms.length + 1) := by
    unfold tgs
    refine ⟨fun h => by rw [if_pos h]; rfl, fun h => by rw [if_neg (by omega), if_pos h]; simp⟩
  obtain ⟨op, XA, XB, ar⟩ := x
  have HAL : Hid (∀ W, Below w.heap.size w W → ArmLies W ao ar) := fun W q => hl.arms.below q
  have HT : Hid (∀ W, Below w.heap.size w W → RowAt W ta 1 tq.length (inF tq)) := fun W q => ht.below q
  simp only at hn hmv hTL
  unfold insV at HTG ⊢
  simp only at HTG ⊢
  have HN : Hid (n = ar.length) := hn
  have HNO : Hid (ao = none → cp = 0) := hno
  have HMX : Hid (n ≤ 1000000 ∧ m ≤ 1000000) := ⟨hmx, hm2⟩
  have HM : Hid (m = tq.length) := hm
  obtain ⟨T, hT⟩ : ∃ T, tgs ⟨op, XA, XB, ar⟩ = T := ⟨_, rfl⟩
  rw [hT] at hmv hTL HTG
  have HTL : Hid ((op = 46 ∨ op = 47 ∨ op = 48 → T.length = 1) ∧ (op = 49 → T.length = ar.length + 1)) := hTL
  obtain ⟨R, HR⟩ : ∃ R, Hid (movX ⟨op, XA, XB, ar⟩ tq = R) := ⟨_, rfl⟩
  rw [HR.out] at hmv ⊢
  have HMV : Hid (R = if tq.length ≠ T.length then (zI, 2) else (if op = 46 ∨ op = 47 ∨ op = 48 then ⟨op, tq.getD 0 0, XB, ar⟩ else if op = 49 then ⟨op, XA, tq.getD ar.length 0, setTo ar tq⟩ else ⟨op, XA, XB, ar⟩, 0)) := hmv
  have o1 := (Own.new w #[.int .u8 (op : Int), .int .i64 XA, .int .i64 XB, .slice ao n cp] 43).alloc (.cells #[.int .u8 0, .int .i64 0, .int .i64 0, .slice none 0 0] 43)
  have o2 := Own.new (w.alloc (.cells #[.int .u8 (op : Int), .int .i64 XA, .int .i64 XB, .slice ao n cp] 43)) #[.int .u8 0, .int .i64 0, .int .i64 0, .slice none 0 0] 43
  rw [World.size_alloc] at o2
  have hb1 : Below w.heap.size w ((w.alloc (.cells #[.int .u8 (op : Int), .int .i64 XA, .int .i64 XB, .slice ao n cp] 43)).alloc (.cells #[.int .u8 0, .int .i64 0, .int .i64 0, .slice none 0 0] 43)) := (new_below _ _).alloc (by simp) _
  clear hl hn hno hmx ht hm hm2 hmv hTL HR hT
  go_enter Tryz.func30, Tryz.ntmps30
  go_upto_region 1 with fail
  generalize (w.alloc (.cells #[.int .u8 (op : Int), .int .i64 XA, .int .i64 XB, .slice ao n cp] 43)).alloc (.cells #[.int .u8 0, .int .i64 0, .int .i64 0, .slice none 0 0] 43) = w1 at *
  obtain ⟨x0, x1, x2, x3, xf⟩ := own4 o1
  go_wp2_with fail
  refine Calls.mono (HTG.out w1 hb1) ?_
  rintro e w2 ⟨v, rfl, hv, b2⟩
  obtain ⟨a1, c1, rfl⟩ := hv.shape
  replace o1 := o1.below b2
  replace o2 := o2.below b2
  replace hb1 := hb1.trans (b2.mono hb1.size)
  clear x0 x1 x2 x3 xf hv b2 HTG
  obtain ⟨L, hL⟩ : ∃ L, T.length = L := ⟨_, rfl⟩
  rw [hL] at HMV HTL ⊢
  clear hL
  by_cases hne : m = L
  · subst hne
    have HMV2 : Hid (R = (if op = 46 ∨ op = 47 ∨ op = 48 then ⟨op, tq.getD 0 0, XB, ar⟩ else if op = 49 then ⟨op, XA, tq.getD ar.length 0, setTo ar tq⟩ else ⟨op, XA, XB, ar⟩, 0)) := by
      unfold Hid
      rw [HMV.out, if_neg (by rw [HM.out]; simp)]
    clear HMV
    obtain ⟨x0, x1, x2, x3, xf⟩ := own4 o1
    go_upto_region 4 with (refine wpList_appR (by rfl) (.const (.slice none 0 0)) (.tmp 15) (by rfl) (by rfl) ao n cp ar (by rfl) (HAL.out _ hb1) HN.out HNO.out HMX.out.1 ?_; intro av cv w3 row b3 new; have p1 := o1.below b3; have p2 := o2.below b3; have hb3 := hb1.trans (b3.mono hb1.size); have hs2 := hb1.size; clear x0 x1 x2 x3 xf o1 o2 hb1; obtain ⟨x0, x1, x2, x3, xf⟩ := own4 p1)
    have o1 : Own (w3.setCell ⟨w.heap.size, 3, none⟩ (.slice av n cv)) w.heap.size #[.int .u8 (op : Int), .int .i64 XA, .int .i64 XB, .slice av n cv] 43 := by simpa using p1.set 3 (.slice av n cv)
    have o2 : Own (w3.setCell ⟨w.heap.size, 3, none⟩ (.slice av n cv)) (w.heap.size + 1) #[.int .u8 0, .int .i64 0, .int .i64 0, .slice none 0 0] 43 := p2.other (by omega) _
    have rw4 : Rw (w3.setCell ⟨w.heap.size, 3, none⟩ (.slice av n cv)) 51 2 (.slice av n cv) n (armC ar) := row.set (row.ne p1 (by decide)) 3 _
    have b4 : Below w.heap.size w (w3.setCell ⟨w.heap.size, 3, none⟩ (.slice av n cv)) := hb3.setCell (p := ⟨w.heap.size, 3, none⟩) (Nat.le_refl _) _
    have HNEW : Hid (∀ b, (Value.slice av n cv).ownBlock = some b → w.heap.size ≤ b) := fun b e => Nat.le_trans hs2 (new b e)
    clear x0 x1 x2 x3 xf p1 p2 row hb3 new hs2 HAL b3
    generalize w3.setCell ⟨w.heap.size, 3, none⟩ (.slice av n cv) = w4 at *
    have oT4 := o1
    have o1X := True.intro
    clear o1
    rcases (by omega : op = 46 ∨ op = 47 ∨ op = 48 ∨ op = 49 ∨ (op ≠ 46 ∧ op ≠ 47 ∧ op ≠ 48 ∧ op ≠ 49)) with rfl | rfl | rfl | rfl | ⟨q1, q2, q3, q4⟩
    · have hm1 : tq.length = 1 := by rw [← HM.out]; exact HTL.out.1 (by simp)
      have hm1' : m = 1 := by rw [HM.out, hm1]
      obtain rfl : R = (⟨46, tq.getD 0 0, XB, ar⟩, 0) := by rw [HMV2.out]; rfl
      subst hm1'
      obtain ⟨tb, tf, rfl, hc⟩ := (HT.out w4 b4).at (i := 0) (by omega)
      have d0 : w4.cell? ⟨tb, tf, none⟩ = some (.int .i64 (tq.getD 0 0)) := hc 0 (by omega)
      generalize tq.getD 0 0 = TO at *
      clear hc HMV2 HTL HM HMX hm1
      obtain ⟨x0, x1, x2, x3, xf⟩ := own4 oT4
      go_upto_region 16 with fail
      have p1 : Own (w4.setCell ⟨w.heap.size, 1, none⟩ (.int .i64 TO)) (w.heap.size) #[.int .u8 ((46 : Nat) : Int), .int .i64 TO, .int .i64 XB, .slice av n cv] 43 := by simpa using oT4.set 1 (.int .i64 TO)
      have p2 : Own (w4.setCell ⟨w.heap.size, 1, none⟩ (.int .i64 TO)) (w.heap.size + 1) #[.int .u8 0, .int .i64 0, .int .i64 0, .slice none 0 0] 43 := o2.other (by omega) _
      have rw5 := rw4.set (rw4.ne oT4 (by decide)) 1 (.int .i64 TO)
      have b5 := b4.setCell (p := ⟨w.heap.size, 1, none⟩) (show w.heap.size ≤ w.heap.size by omega) (.int .i64 TO)
      clear x0 x1 x2 x3 xf d0 oT4 o1X o2 rw4 b4
      generalize w4.setCell ⟨w.heap.size, 1, none⟩ (.int .i64 TO) = w5 at *
      obtain ⟨x0, x1, x2, x3, xf⟩ := own4 p1
      go_wp2_with (refine wpList_put rfl 43 (.tmp 4) (.tmp 53) rfl rfl (w.heap.size + 1) 0 rfl rfl p2 infoIn rfl (by simp) rfl ?_; intro w5 o5 g5)
      refine bodyPost_cell2 (g := w.heap.size + 1) (t := 43) rfl rfl rfl o5 Tryz.underlying43 rfl (by kernel_rfl) ?_
      exact mv_out (X := ⟨46, TO, XB, ar⟩) HN.out.symm rw5 HNEW.out b5 p2 (by omega) g5
    · have hm1 : tq.length = 1 := by rw [← HM.out]; exact HTL.out.1 (by simp)
      have hm1' : m = 1 := by rw [HM.out, hm1]
      obtain rfl : R = (⟨47, tq.getD 0 0, XB, ar⟩, 0) := by rw [HMV2.out]; rfl
      subst hm1'
      obtain ⟨tb, tf, rfl, hc⟩ := (HT.out w4 b4).at (i := 0) (by omega)
      have d0 : w4.cell? ⟨tb, tf, none⟩ = some (.int .i64 (tq.getD 0 0)) := hc 0 (by omega)
      generalize tq.getD 0 0 = TO at *
      clear hc HMV2 HTL HM HMX hm1
      obtain ⟨x0, x1, x2, x3, xf⟩ := own4 oT4
      go_upto_region 16 with fail
      have p1 : Own (w4.setCell ⟨w.heap.size, 1, none⟩ (.int .i64 TO)) (w.heap.size) #[.int .u8 ((47 : Nat) : Int), .int .i64 TO, .int .i64 XB, .slice av n cv] 43 := by simpa using oT4.set 1 (.int .i64 TO)
      have p2 : Own (w4.setCell ⟨w.heap.size, 1, none⟩ (.int .i64 TO)) (w.heap.size + 1) #[.int .u8 0, .int .i64 0, .int .i64 0, .slice none 0 0] 43 := o2.other (by omega) _
      have rw5 := rw4.set (rw4.ne oT4 (by decide)) 1 (.int .i64 TO)
      have b5 := b4.setCell (p := ⟨w.heap.size, 1, none⟩) (show w.heap.size ≤ w.heap.size by omega) (.int .i64 TO)
      clear x0 x1 x2 x3 xf d0 oT4 o1X o2 rw4 b4
      generalize w4.setCell ⟨w.heap.size, 1, none⟩ (.int .i64 TO) = w5 at *
      obtain ⟨x0, x1, x2, x3, xf⟩ := own4 p1
      go_wp2_with (refine wpList_put rfl 43 (.tmp 4) (.tmp 53) rfl rfl (w.heap.size + 1) 0 rfl rfl p2 infoIn rfl (by simp) rfl ?_; intro w5 o5 g5)
      refine bodyPost_cell2 (g := w.heap.size + 1) (t := 43) rfl rfl rfl o5 Tryz.underlying43 rfl (by kernel_rfl) ?_
      exact mv_out (X := ⟨47, TO, XB, ar⟩) HN.out.symm rw5 HNEW.out b5 p2 (by omega) g5
    · have hm1 : tq.length = 1 := by rw [← HM.out]; exact HTL.out.1 (by simp)
      have hm1' : m = 1 := by rw [HM.out, hm1]
      obtain rfl : R = (⟨48, tq.getD 0 0, XB, ar⟩, 0) := by rw [HMV2.out]; rfl
      subst hm1'
      obtain ⟨tb, tf, rfl, hc⟩ := (HT.out w4 b4).at (i := 0) (by omega)
      have d0 : w4.cell? ⟨tb, tf, none⟩ = some (.int .i64 (tq.getD 0 0)) := hc 0 (by omega)
      generalize tq.getD 0 0 = TO at *
      clear hc HMV2 HTL HM HMX hm1
      obtain ⟨x0, x1, x2, x3, xf⟩ := own4 oT4
      go_upto_region 16 with fail
      have p1 : Own (w4.setCell ⟨w.heap.size, 1, none⟩ (.int .i64 TO)) (w.heap.size) #[.int .u8 ((48 : Nat) : Int), .int .i64 TO, .int .i64 XB, .slice av n cv] 43 := by simpa using oT4.set 1 (.int .i64 TO)
      have p2 : Own (w4.setCell ⟨w.heap.size, 1, none⟩ (.int .i64 TO)) (w.heap.size + 1) #[.int .u8 0, .int .i64 0, .int .i64 0, .slice none 0 0] 43 := o2.other (by omega) _
      have rw5 := rw4.set (rw4.ne oT4 (by decide)) 1 (.int .i64 TO)
      have b5 := b4.setCell (p := ⟨w.heap.size, 1, none⟩) (show w.heap.size ≤ w.heap.size by omega) (.int .i64 TO)
      clear x0 x1 x2 x3 xf d0 oT4 o1X o2 rw4 b4
      generalize w4.setCell ⟨w.heap.size, 1, none⟩ (.int .i64 TO) = w5 at *
      obtain ⟨x0, x1, x2, x3, xf⟩ := own4 p1
      go_wp2_with (refine wpList_put rfl 43 (.tmp 4) (.tmp 53) rfl rfl (w.heap.size + 1) 0 rfl rfl p2 infoIn rfl (by simp) rfl ?_; intro w5 o5 g5)
      refine bodyPost_cell2 (g := w.heap.size + 1) (t := 43) rfl rfl rfl o5 Tryz.underlying43 rfl (by kernel_rfl) ?_
      exact mv_out (X := ⟨48, TO, XB, ar⟩) HN.out.symm rw5 HNEW.out b5 p2 (by omega) g5
    · have hmL : m = ar.length + 1 := by rw [HTL.out.2 rfl]
      obtain ⟨TO, hTN⟩ : ∃ TO, tq.getD ar.length 0 = TO := ⟨_, rfl⟩
      have HTN : Hid (tq.getD ar.length 0 = TO) := hTN
      obtain rfl : R = (⟨49, XA, TO, setTo ar tq⟩, 0) := by rw [HMV2.out, ← hTN]; rfl
      clear hTN
      have HML : Hid (m = n + 1 ∧ tq.length = n + 1 ∧ n = ar.length) := ⟨by rw [hmL, HN.out], by rw [← HM.out, hmL, HN.out], HN.out⟩
      clear hmL HMV2 HTL
      have REL : Hid (Own w4 (w.heap.size) #[.int .u8 ((49 : Nat) : Int), .int .i64 XA, .int .i64 XB, .slice av n cv] 43 ∧ Own w4 (w.heap.size + 1) #[.int .u8 0, .int .i64 0, .int .i64 0, .slice none 0 0] 43 ∧ MixR w4 (.slice av n cv) n ar tq 0 ∧ Below w.heap.size w w4) := ⟨oT4, o2, MixR.start tq HN.out rw4, b4⟩
      obtain ⟨x0, x1, x2, x3, xf⟩ := own4 oT4
      skip
      clear rw4 o2 oT4 o1X b4
      go_wp2_with fail
      go_loopw [33] (fun i wr => ∃ k : Nat, k ≤ n ∧ i = .int .i64 (k : Int) ∧ Own wr (w.heap.size) #[.int .u8 ((49 : Nat) : Int), .int .i64 XA, .int .i64 XB, .slice av n cv] 43 ∧ Own wr (w.heap.size + 1) #[.int .u8 0, .int .i64 0, .int .i64 0, .slice none 0 0] 43 ∧ MixR wr (.slice av n cv) n ar tq k ∧ Below w.heap.size w wr) (fun i _ => n - (intOf i).toNat)
      case atStart => exact ⟨0, Nat.zero_le _, rfl, REL.out⟩
      case round =>
        clear REL x0 x1 x2 x3 xf
        obtain ⟨k, hk, rfl, oX, oR, hmx, hb⟩ := hrel
        by_cases hlt : k < n
        · obtain ⟨zs0, hR0, -⟩ := id hmx
          obtain ⟨g2, cap2, cur, e, -⟩ := hR0.block (by omega)
          cases e
          obtain ⟨⟨u, hcu⟩, hcf⟩ := hmx.cell hlt
          obtain ⟨tb, tf, rfl, hc⟩ := (HT.out wr hb).at (i := k) (by have := HML.out; omega)
          have d0 : wr.cell? ⟨tb, tf + k, none⟩ = some (.int .i64 (tq.getD k 0)) := by have := hc 0 (by omega); rw [Nat.mul_one] at this; exact this
          have hgX : g2 ≠ w.heap.size := fun e => hR0.ne oX (by decide) (by rw [e]; rfl)
          have hgR : g2 ≠ w.heap.size + 1 := fun e => hR0.ne oR (by decide) (by rw [e]; rfl)
          have hg0 : w.heap.size ≤ g2 := HNEW.out g2 rfl
          have hmx2 := hmx.next hlt
          generalize tq.getD k 0 = TK at *
          have RES : Hid (Own (wr.setCell ⟨g2, k * 2 + 1, none⟩ (.int .i64 TK)).drew (w.heap.size) #[.int .u8 ((49 : Nat) : Int), .int .i64 XA, .int .i64 XB, .slice (some ⟨g2, 0, none⟩) n cv] 43 ∧ Own (wr.setCell ⟨g2, k * 2 + 1, none⟩ (.int .i64 TK)).drew (w.heap.size + 1) #[.int .u8 0, .int .i64 0, .int .i64 0, .slice none 0 0] 43 ∧ MixR (wr.setCell ⟨g2, k * 2 + 1, none⟩ (.int .i64 TK)).drew (.slice (some ⟨g2, 0, none⟩) n cv) n ar tq (k + 1) ∧ Below w.heap.size w (wr.setCell ⟨g2, k * 2 + 1, none⟩ (.int .i64 TK)).drew) :=
            ⟨Own.drew (oX.other (fun e => hgX e.symm) _), Own.drew (oR.other (fun e => hgR e.symm) _), hmx2.drew, (hb.setCell (p := ⟨g2, k * 2 + 1, none⟩) hg0 _).drew⟩
          have hlt2 : (k : Int) < (n : Int) := by omega
          have hlt3 : (k : Int) < (m : Int) := by have := HML.out; omega
          have hk0 : (0 : Int) ≤ (k : Int) := by omega
          obtain ⟨x0, x1, x2, x3, xf⟩ := own4 oX
          have hkm : n ≤ 1000000 := HMX.out.1
          clear hmx hmx2 hR0 hb hc oX oR hgX hgR hg0 
          go_upto_region 13 with fail
          go_region
          go_wp2
          go_roundw
          case rel => exact ⟨k + 1, hlt, by go_num, RES.out⟩
          case measure => simp [intOf]; omega
        · obtain rfl : k = n := by omega
          obtain ⟨tb, tf, rfl, hc⟩ := (HT.out wr hb).at (i := k) (by have := HML.out; omega)
          have d0 : wr.cell? ⟨tb, tf + k, none⟩ = some (.int .i64 TO) := by have := hc 0 (by omega); rw [Nat.mul_one] at this; rw [← HTN.out, ← HML.out.2.2]; exact this
          have hlt3 : (k : Int) < (m : Int) := by have := HML.out; omega
          skip
          obtain ⟨x0, x1, x2, x3, xf⟩ := own4 oX
          go_upto_region 16 with fail
          have rw0 := hmx.done HN.out (by have := HML.out; omega)
          have p1 : Own (wr.setCell ⟨w.heap.size, 2, none⟩ (.int .i64 TO)) (w.heap.size) #[.int .u8 ((49 : Nat) : Int), .int .i64 XA, .int .i64 TO, .slice av k cv] 43 := by simpa using oX.set 2 (.int .i64 TO)
          have p2 : Own (wr.setCell ⟨w.heap.size, 2, none⟩ (.int .i64 TO)) (w.heap.size + 1) #[.int .u8 0, .int .i64 0, .int .i64 0, .slice none 0 0] 43 := oR.other (by omega) _
          have rw5 := rw0.set (rw0.ne oX (by decide)) 2 (.int .i64 TO)
          have b5 := hb.setCell (p := ⟨w.heap.size, 2, none⟩) (show w.heap.size ≤ w.heap.size by omega) (.int .i64 TO)
          clear x0 x1 x2 x3 xf d0 oX oR hmx rw0 hb hc
          generalize wr.setCell ⟨w.heap.size, 2, none⟩ (.int .i64 TO) = w5 at *
          obtain ⟨x0, x1, x2, x3, xf⟩ := own4 p1
          go_wp2_with (refine wpList_put rfl 43 (.tmp 4) (.tmp 53) rfl rfl (w.heap.size + 1) 0 rfl rfl p2 infoIn rfl (by simp) rfl ?_; intro w5 o5 g5)
          refine bodyPost_cell2 (g := w.heap.size + 1) (t := 43) rfl rfl rfl o5 Tryz.underlying43 rfl (by kernel_rfl) ?_
          exact mv_out (X := ⟨49, XA, TO, setTo ar tq⟩) ((setTo_length (by have := HML.out; omega)).trans HN.out.symm) rw5 HNEW.out b5 p2 (by omega) g5
    · obtain rfl : R = (⟨op, XA, XB, ar⟩, 0) := by rw [HMV2.out, if_neg (by omega), if_neg q4]
      have e1 : ((op : Int) == 46) = false := by rw [beq_eq_false_iff_ne]; omega
      have e2 : ((op : Int) == 47) = false := by rw [beq_eq_false_iff_ne]; omega
      have e3 : ((op : Int) == 48) = false := by rw [beq_eq_false_iff_ne]; omega
      have e4 : ((op : Int) == 49) = false := by rw [beq_eq_false_iff_ne]; omega
      have f1 : ¬ (op : Int) = 46 := by omega
      have f2 : ¬ (op : Int) = 47 := by omega
      have f3 : ¬ (op : Int) = 48 := by omega
      have f4 : ¬ (op : Int) = 49 := by omega
      clear HMV2 HTL HM HMX q1 q2 q3 q4 HT
      obtain ⟨x0, x1, x2, x3, xf⟩ := own4 oT4
      go_wp2_with (refine wpList_put rfl 43 (.tmp 4) (.tmp 53) rfl rfl (w.heap.size + 1) 0 rfl rfl o2 infoIn rfl (by simp) rfl ?_; intro w5 o5 g5)
      refine bodyPost_cell2 (g := w.heap.size + 1) (t := 43) rfl rfl rfl o5 Tryz.underlying43 rfl (by kernel_rfl) ?_
      exact mv_out (X := ⟨op, XA, XB, ar⟩) HN.out.symm rw4 HNEW.out b4 o2 (by omega) g5
  · have hq : ((m : Int) == (L : Int)) = false := by rw [beq_eq_false_iff_ne]; omega
    have hq2 : ¬ (m : Int) = (L : Int) := by omega
    obtain rfl : R = (zI, 2) := by rw [HMV.out, if_pos (by rw [← HM.out]; exact hne)]
    clear HMV HTL HM HMX HNO HN HAL HT hne
    obtain ⟨x0, x1, x2, x3, xf⟩ := own4 o1
    go_wp2_with (refine wpList_put rfl 43 (.tmp 4) (.tmp 13) rfl rfl (w.heap.size + 1) 0 rfl rfl o2 infoIn rfl (by simp) rfl ?_; intro w5 o5 g5)
    refine bodyPost_cell2 (g := w.heap.size + 1) (t := 43) rfl rfl rfl o5 Tryz.underlying43 rfl (by kernel_rfl) ?_
    exact ⟨.slice none 0 0, rfl, World.ownsRow_nil _ _ _ _, by simp [Value.ownBlock], hb1.grown g5 hb1.size (fun k e => by cases e; omega)⟩
end Go.Proofs.YtkmmnocooibljaaGreatDoor
