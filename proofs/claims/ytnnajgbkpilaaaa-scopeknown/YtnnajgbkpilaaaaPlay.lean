/-
  A CALL ON BOTH: the law's 'plays'.
-/
import Derived.Test.YtnnajgbkpilaaaaTells
namespace Go.Proofs.Ytnnajgbkpilaaaa
open Go.RowKit
set_option linter.unusedVariables false
set_option linter.unusedSimpArgs false
def M.play (m : M) (s : St) : M := match pk s.kind 9 with
  | 0 => m.opened
  | 1 => m.closed
  | 2 => m.declared s.name s.typ
  | 4 => m.entered s.name s.turns
  | 5 => m.left
  | _ => m
theorem Bd.play {m : M} {N : Nat} (h : Bd m N) (s : St) : Bd (m.play s) (N + 1) := by
  unfold M.play
  split
  · exact h.opened
  · exact h.closed.mono (Nat.le_succ _)
  · exact (h.declared _ _).mono (Nat.le_succ _)
  · exact h.entered _ _
  · exact h.left.mono (Nat.le_succ _)
  · exact h.mono (Nat.le_succ _)
/-- The landed scope and the document's, in blocks A, one apart from the other. -/
def Pr (w : World) (p q : Nat) (m : M) (A : Nat → Prop) : Prop := ∃ F G, ScAt w p m F ∧ RfAt w q m G ∧ (∀ b, F b → G b → False) ∧ ∀ b, A b ↔ F b ∨ G b
def PrRet (w : World) (p q : Nat) (m' : M) (A : Nat → Prop) (w' : World) : Prop := ∃ A', Pr w' p q m' A' ∧ (∀ b, A' b → A b ∨ w.heap.size ≤ b) ∧ Fr A w w'
theorem Pr.bd {w : World} {p q : Nat} {m : M} {A : Nat → Prop} (h : Pr w p q m A) : ∀ b, A b → b < w.heap.size := by
  obtain ⟨F, G, h1, h2, _, h4⟩ := h
  intro b hb
  rcases (h4 b).1 hb with q | q
  · exact h1.bd b q
  · exact h2.bd b q
theorem Pr.fr {w w' : World} {p q : Nat} {m : M} {A K : Nat → Prop} (h : Pr w p q m A) (hf : Fr K w w') (hd : ∀ b, A b → K b → False) : Pr w' p q m A := by
  obtain ⟨F, G, h1, h2, h3, h4⟩ := h
  exact ⟨F, G, h1.fr hf fun b x y => hd b ((h4 b).2 (.inl x)) y, h2.fr hf fun b x y => hd b ((h4 b).2 (.inr x)) y, h3, h4⟩
theorem Pr.below {w w' : World} {p q : Nat} {m : M} {A : Nat → Prop} (h : Pr w p q m A) (hf : Below w.heap.size w w') : Pr w' p q m A := h.fr (K := fun _ => False) (Fr.of hf) fun _ _ q => q
theorem pr_mid {W w1 : World} {p q : Nat} {m m' : M} {F G : Nat → Prop} (hR : RfAt W q m G) (hd : ∀ b, F b → G b → False) (r1 : ScRet W p m' F w1) : RfAt w1 q m G := by
  obtain ⟨F', _, _, h3⟩ := r1
  exact hR.fr h3 fun b g f => hd b f g
theorem pr_end {W w1 w2 : World} {p q : Nat} {m m' : M} {A F G : Nat → Prop} (hR : RfAt W q m G) (hd : ∀ b, F b → G b → False) (hA : ∀ b, A b ↔ F b ∨ G b) (r1 : ScRet W p m' F w1) (r2 : RfRet w1 q m' G w2) : PrRet W p q m' A w2 := by
  obtain ⟨F', a1, a2, a3⟩ := r1
  obtain ⟨G', c1, c2, c3⟩ := r2
  have hdis : ∀ b, F' b → G b → False := fun b f g => by
    rcases a2 b f with x | x
    · exact hd b x g
    · have := hR.bd b g; omega
  refine ⟨fun b => F' b ∨ G' b, ⟨F', G', a1.fr c3 hdis, c1, fun b f g => ?_, fun b => Iff.rfl⟩, fun b hb => ?_, ?_⟩
  · rcases c2 b g with x | x
    · exact hdis b f x
    · have := a1.bd b f; omega
  · rcases hb with f | g
    · rcases a2 b f with x | x
      · exact .inl ((hA b).2 (.inl x))
      · exact .inr x
    · rcases c2 b g with x | x
      · exact .inl ((hA b).2 (.inr x))
      · exact .inr (Nat.le_trans a3.size x)
  · exact (a3.mono fun k _ f => (hA k).2 (.inl f)).then c3 fun i _ g => (hA i).2 (.inr g)
theorem PrRet.base {w W w2 : World} {p q : Nat} {m' : M} {A : Nat → Prop} (hb : Below w.heap.size w W) (h : PrRet W p q m' A w2) : PrRet w p q m' A w2 := by
  obtain ⟨A', h1, h2, h3⟩ := h
  refine ⟨A', h1, fun b x => ?_, (Fr.of hb).trans h3⟩
  rcases h2 b x with y | y
  · exact .inl y
  · exact .inr (Nat.le_trans hb.size y)
theorem findV_shape (m : M) (nm : ByteArray) : ∃ (a t : Int) (ok : Bool), m.findV nm = .tuple #[.int .i64 a, .int .i64 t, .bool ok] := by
  unfold M.findV
  split <;> exact ⟨_, _, _, rfl⟩
theorem step_keep {W w1 : World} {p g : Nat} {m' : M} {F : Nat → Prop} {cs : Array Value} {t : TypeId} (hx : Own W g cs t) (hng : ¬ F g) (r1 : ScRet W p m' F w1) : Own w1 g cs t := by
  obtain ⟨_, _, _, h3⟩ := r1
  exact hx.fr h3 hng
theorem own4 {w : World} {g : Nat} {a0 a1 a2 a3 : Value} {t : TypeId} (h : Own w g #[a0, a1, a2, a3] t) : w.cell? ⟨g, 0, none⟩ = some a0 ∧ w.cell? ⟨g, 1, none⟩ = some a1 ∧ w.cell? ⟨g, 2, none⟩ = some a2 ∧ w.cell? ⟨g, 3, none⟩ = some a3 := ⟨h.cell 0, h.cell 1, h.cell 2, h.cell 3⟩
set_option maxRecDepth 100000 in
set_option maxHeartbeats 4000000 in
theorem playsP {w : World} {p q : Nat} {m : M} {A : Nat → Prop} (h : Pr w p q m A) {N : Nat} (hb : Bd m N) (hN : N ≤ 10000) (kd : Int) (nm : ByteArray) (hsz : nm.size ≤ maxLen) (ty : Int) (tu : Bool) :
    Calls Try.prog 13 #[.pointer (some ⟨p, 0, none⟩), .pointer (some ⟨q, 0, none⟩), .agg #[.int .i64 kd, .string nm, .int .i64 ty, .bool tu]] w fun e w' => e = .returned (.bool true) ∧ PrRet w p q (m.play ⟨kd, nm, ty, tu⟩) A w' := by
  have hB0 : Below w.heap.size w (w.alloc (.cells #[.int .i64 kd, .string nm, .int .i64 ty, .bool tu] 29)) := (Below.refl _ _).alloc (Nat.le_refl _) _
  have h0 := h.below hB0
  obtain ⟨F, G, hS, hR, hd, hA⟩ := h0
  have hng : ¬ F w.heap.size := by
    intro f
    have := h.bd _ ((hA _).2 (.inl f))
    omega
  have hinv := hS.inv
  have hfew := hinv.few
  have hlow := hinv.lows
  have hb1 : m.out.length ≤ 100000 := by have := hb.1; omega
  have hb2 : m.turns.length ≤ 100000 := by have := hb.2.1; omega
  have hb3 : m.next ≤ 100000 := by have := hb.2.2; omega
  have hx := Own.new w #[.int .i64 kd, .string nm, .int .i64 ty, .bool tu] 29
  obtain ⟨W, hW⟩ : ∃ W, Hid (w.alloc (.cells #[.int .i64 kd, .string nm, .int .i64 ty, .bool tu] 29) = W) := ⟨_, rfl⟩
  have HX : Hid (Own W w.heap.size #[.int .i64 kd, .string nm, .int .i64 ty, .bool tu] 29) := by rw [← hW.out]; exact hx
  have HB0 : Hid (Below w.heap.size w W) := by rw [← hW.out]; exact hB0
  rw [hW.out] at hS hR
  have x0 := hx.cell 0
  have x1 := hx.cell 1
  have x2 := hx.cell 2
  have x3 := hx.cell 3
  simp only [List.getElem?_toArray, List.getElem?_cons_zero, List.getElem?_cons_succ] at x0 x1 x2 x3
  have HS : Hid (ScAt W p m F) := hS
  have HR : Hid (RfAt W q m G) := hR
  have HA : Hid (∀ b, A b ↔ F b ∨ G b) := hA
  have HD : Hid (∀ b, F b → G b → False) := hd
  have HI : Hid (Inv m) := hinv
  have hpick := pick9 kd W
  have hj := pk_lt kd (show 0 < 9 by omega)
  obtain ⟨j, hjj⟩ : ∃ j, Hid (pk kd 9 = j) := ⟨_, rfl⟩
  rw [hjj.out] at hpick hj
  clear h hS hR hd hA hx hB0 hb hinv
  have hcases : j = 0 ∨ j = 1 ∨ j = 2 ∨ j = 3 ∨ j = 4 ∨ j = 5 ∨ (j = 6 ∨ j = 7 ∨ j = 8) := by omega
  go_enter Try.func13, Try.ntmps13
  go_upto_region 2 with (rw [hW.out]; go_at_call 10; refine hpick.mono ?_; rintro e w1 ⟨rfl, rfl⟩)
  rw [hW.out] at x0 x1 x2 x3
  rcases hcases with rfl | rfl | rfl | rfl | rfl | rfl | hcases
  · have hst : Hid (m.play ⟨kd, nm, ty, tu⟩ = m.opened) := by unfold Hid M.play; simp only; rw [hjj.out]; try rfl
    have hc := openS HS.out hb1
    obtain ⟨V, hV⟩ : ∃ v : Int, Hid ((m.out.length : Int) + 2 = v) := ⟨_, rfl⟩
    rw [hV.out] at hc
    go_wp2_with (first | (go_at_call 20; refine hc.mono ?_; rintro e w2 ⟨rfl, r1⟩; have R1 : Hid _ := r1; have hc2 := rOpen (pr_mid HR.out HD.out r1) hb1; rw [hV.out] at hc2; obtain ⟨-, y1, y2, y3⟩ := own4 (step_keep HX.out hng r1); clear r1) | (go_at_call 32; refine hc2.mono ?_; rintro e w3 ⟨rfl, r2⟩; have R2 : Hid _ := r2; clear r2))
    go_ret
    exact ⟨by first | rfl | simp, by rw [hst.out]; exact (pr_end HR.out HD.out HA.out R1.out R2.out).base HB0.out⟩
  · have hst : Hid (m.play ⟨kd, nm, ty, tu⟩ = m.closed) := by unfold Hid M.play; simp only; rw [hjj.out]; try rfl
    have hc := closeS HS.out hb1
    obtain ⟨V, hV⟩ : ∃ v : Bool, Hid (m.closes = v) := ⟨_, rfl⟩
    rw [hV.out] at hc
    go_wp2_with (first | (go_at_call 21; refine hc.mono ?_; rintro e w2 ⟨rfl, r1⟩; have R1 : Hid _ := r1; have hc2 := rClose (pr_mid HR.out HD.out r1) hb1 (by omega); rw [hV.out] at hc2; obtain ⟨-, y1, y2, y3⟩ := own4 (step_keep HX.out hng r1); clear r1) | (go_at_call 33; refine hc2.mono ?_; rintro e w3 ⟨rfl, r2⟩; have R2 : Hid _ := r2; clear r2))
    go_ret
    exact ⟨by first | rfl | simp, by rw [hst.out]; exact (pr_end HR.out HD.out HA.out R1.out R2.out).base HB0.out⟩
  · have hst : Hid (m.play ⟨kd, nm, ty, tu⟩ = m.declared nm ty) := by unfold Hid M.play; simp only; rw [hjj.out]; try rfl
    have hc := declS HS.out hb1 nm ty
    obtain ⟨V, hV⟩ : ∃ v : Int, Hid ((m.decV nm : Int) = v) := ⟨_, rfl⟩
    obtain ⟨E, hE⟩ : ∃ v : Int, Hid ((m.decE nm : Int) = v) := ⟨_, rfl⟩
    rw [hV.out, hE.out] at hc
    go_wp2_with (first | (go_at_call 16; refine hc.mono ?_; rintro e w2 ⟨rfl, r1⟩; have R1 : Hid _ := r1; have hc2 := rDecl (pr_mid HR.out HD.out r1) hb1 (by omega) hfew nm ty; rw [hV.out, hE.out] at hc2; obtain ⟨-, y1, y2, y3⟩ := own4 (step_keep HX.out hng r1); clear r1) | (go_at_call 34; refine hc2.mono ?_; rintro e w3 ⟨rfl, r2⟩; have R2 : Hid _ := r2; clear r2))
    go_ret
    exact ⟨by first | rfl | simp, by rw [hst.out]; exact (pr_end HR.out HD.out HA.out R1.out R2.out).base HB0.out⟩
  · have hst : Hid (m.play ⟨kd, nm, ty, tu⟩ = m) := by unfold Hid M.play; simp only; rw [hjj.out]; try rfl
    have hc := findS HS.out nm
    obtain ⟨V, T, K, hV0⟩ := findV_shape m nm
    have hV : Hid (m.findV nm = .tuple #[.int .i64 V, .int .i64 T, .bool K]) := hV0
    clear hV0
    rw [hV.out] at hc
    go_wp2_with (first | (go_at_call 19; refine hc.mono ?_; rintro e w2 ⟨rfl, b1⟩; have r1 := ScRet.same HS.out b1; have R1 : Hid _ := r1; have hc2 := rFind (pr_mid HR.out HD.out r1) (by omega) nm; rw [hV.out] at hc2; obtain ⟨-, y1, y2, y3⟩ := own4 (step_keep HX.out hng r1); clear r1) | (go_at_call 35; refine hc2.mono ?_; rintro e w3 ⟨rfl, b2⟩; have r2 := RfRet.same (pr_mid HR.out HD.out R1.out) b2; have R2 : Hid _ := r2; clear r2))
    go_ret
    exact ⟨by first | rfl | simp, by rw [hst.out]; exact (pr_end HR.out HD.out HA.out R1.out R2.out).base HB0.out⟩
  · have hst : Hid (m.play ⟨kd, nm, ty, tu⟩ = m.entered nm tu) := by unfold Hid M.play; simp only; rw [hjj.out]; try rfl
    have hc := enterS HS.out hb2 hb3 nm hsz tu
    obtain ⟨V, hV⟩ : ∃ v : Int, Hid ((m.entV nm : Int) = v) := ⟨_, rfl⟩
    obtain ⟨E, hE⟩ : ∃ v : Int, Hid ((m.entE nm : Int) = v) := ⟨_, rfl⟩
    rw [hV.out, hE.out] at hc
    go_wp2_with (first | (go_at_call 17; refine hc.mono ?_; rintro e w2 ⟨rfl, r1⟩; have R1 : Hid _ := r1; have hc2 := rEnter (pr_mid HR.out HD.out r1) hb2 hb3 nm tu; rw [hV.out, hE.out] at hc2; obtain ⟨-, y1, y2, y3⟩ := own4 (step_keep HX.out hng r1); clear r1) | (go_at_call 36; refine hc2.mono ?_; rintro e w3 ⟨rfl, r2⟩; have R2 : Hid _ := r2; clear r2))
    go_ret
    exact ⟨by first | rfl | simp, by rw [hst.out]; exact (pr_end HR.out HD.out HA.out R1.out R2.out).base HB0.out⟩
  · have hst : Hid (m.play ⟨kd, nm, ty, tu⟩ = m.left) := by unfold Hid M.play; simp only; rw [hjj.out]; try rfl
    have hc := leaveS HS.out hb2
    obtain ⟨V, hV⟩ : ∃ v : Bool, Hid (m.leaves = v) := ⟨_, rfl⟩
    rw [hV.out] at hc
    go_wp2_with (first | (go_at_call 22; refine hc.mono ?_; rintro e w2 ⟨rfl, r1⟩; have R1 : Hid _ := r1; have hc2 := rLeave (pr_mid HR.out HD.out r1) hb2; rw [hV.out] at hc2; obtain ⟨-, y1, y2, y3⟩ := own4 (step_keep HX.out hng r1); clear r1) | (go_at_call 37; refine hc2.mono ?_; rintro e w3 ⟨rfl, r2⟩; have R2 : Hid _ := r2; clear r2))
    go_ret
    exact ⟨by first | rfl | simp, by rw [hst.out]; exact (pr_end HR.out HD.out HA.out R1.out R2.out).base HB0.out⟩
  rcases hcases with rfl | rfl | rfl
  all_goals
    have hst : Hid (m.play ⟨kd, nm, ty, tu⟩ = m) := by unfold Hid M.play; simp only; rw [hjj.out]; try rfl
    have hc := targetS HS.out hb2 nm hsz tu
    obtain ⟨V, hV⟩ : ∃ v : Int, Hid ((m.tgtV nm tu : Int) = v) := ⟨_, rfl⟩
    obtain ⟨E, hE⟩ : ∃ v : Int, Hid ((m.tgtE nm tu : Int) = v) := ⟨_, rfl⟩
    rw [hV.out, hE.out] at hc
    go_wp2_with (first | (go_at_call 18; refine hc.mono ?_; rintro e w2 ⟨rfl, b1⟩; have r1 := ScRet.same HS.out b1; have R1 : Hid _ := r1; have hc2 := rTarget (pr_mid HR.out HD.out r1) hb2 nm tu; rw [hV.out, hE.out] at hc2; obtain ⟨-, y1, y2, y3⟩ := own4 (step_keep HX.out hng r1); clear r1) | (go_at_call 38; refine hc2.mono ?_; rintro e w3 ⟨rfl, b2⟩; have r2 := RfRet.same (pr_mid HR.out HD.out R1.out) b2; have R2 : Hid _ := r2; clear r2))
    go_ret
    exact ⟨by first | rfl | simp, by rw [hst.out]; exact (pr_end HR.out HD.out HA.out R1.out R2.out).base HB0.out⟩
end Go.Proofs.Ytnnajgbkpilaaaa
