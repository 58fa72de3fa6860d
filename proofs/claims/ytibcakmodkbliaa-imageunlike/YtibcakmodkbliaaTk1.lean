/-
  LISTS OF ONE'S OWN: slices.Clone of numbers, take, put.
-/
import Derived.Test.YtibcakmodkbliaaMl1
import Derived.Test.YtibcakmodkbliaaMb
namespace Go.Proofs.Ytibcakmodkbliaa
open Go.RowKit
set_option linter.unusedVariables false

/-- Numbers in a row of the call's own. -/
structure IntNew (w : World) (B : Nat) (v : Value) (xs : List Int) : Prop where
  row : Rw w 3 1 v xs.length (intV xs)
  new : ∀ b, v.ownBlock = some b → B ≤ b
theorem IntNew.below {w w' : World} {B : Nat} {v : Value} {xs : List Int} (h : IntNew w B v xs) (hb : Below w.heap.size w w') : IntNew w' B v xs := ⟨h.row.belowR hb, h.new⟩
theorem IntNew.mono {w : World} {B B' : Nat} {v : Value} {xs : List Int} (h : IntNew w B v xs) (hb : B' ≤ B) : IntNew w B' v xs := ⟨h.row, fun b e => Nat.le_trans hb (h.new b e)⟩
theorem IntNew.grown {w w' : World} {B g : Nat} {v : Value} {xs : List Int} {cs : Array Value} {t : TypeId} (h : IntNew w B v xs) (hg : w.grownBy w' (some g)) (ho : Own w g cs t) (ht : 3 ≠ t) : IntNew w' B v xs := ⟨h.row.grown hg (fun k e q => by cases q; exact h.row.ne ho ht e), h.new⟩
theorem IntNew.nil (w : World) (B : Nat) : IntNew w B (.slice none 0 0) [] := ⟨World.ownsRow_nil _ _ _ _, by simp [Value.ownBlock]⟩
theorem IntNew.shape {w : World} {B : Nat} {v : Value} {xs : List Int} (h : IntNew w B v xs) : ∃ a c, v = .slice a xs.length c := by
  obtain ⟨a, c, e, _⟩ := h.row.shape
  exact ⟨a, c, e⟩
set_option maxHeartbeats 1000000 in
set_option maxRecDepth 100000 in
theorem clone_as {w : World} {a : Option Addr} {n c : Nat} {xs : List Int} (hl : RowAt w a 1 xs.length (inF xs)) (hn : n = xs.length) (hno : a = none → c = 0) (hle : n ≤ c) (hm : n ≤ 1000000) :
    Calls Try.prog 82 #[.slice a n c] w fun e w' => ∃ v, e = .returned v ∧ IntNew w' w.heap.size v xs ∧ Below w.heap.size w w' := by
  cases a with
  | none =>
    have hc := hno rfl
    subst hc
    obtain rfl : n = 0 := by omega
    obtain rfl : xs = [] := List.eq_nil_of_length_eq_zero hn.symm
    clear hl hn hno hle hm
    have hnil : (binOp BinOp.eql 39 (.slice none 0 0) (.slice none 0 0)).run Try.prog w = .ok (.bool true) w := by kernel_rfl
    go_enter Try.func82, Try.ntmps82
    go_wp2
    go_ret
    exact ⟨_, rfl, IntNew.nil _ _, Below.refl _ _⟩
  | some ad =>
    have HR : Hid (∀ wr, Below w.heap.size w wr → n = 0 ∨ ∃ b off, some ad = some ⟨b, off, none⟩ ∧ ∀ j u, (intV xs)[j]? = some u → wr.cell? ⟨b, off + j, none⟩ = some u) := by
      intro wr hb
      rw [hn]
      exact (hl.below hb).read (by rw [intV_length]; omega) (by omega) (fun i hi d hd => intV_get xs i hi d hd)
    have HN : Hid (n = xs.length) := hn
    have HM : Hid (n ≤ 1000000) := hm
    have hnil : (binOp BinOp.eql 39 (.slice (some ad) n c) (.slice none 0 0)).run Try.prog w = .ok (.bool false) w := by kernel_rfl
    clear hl hn hno hm hle
    have R0 : Rw (w.alloc (.cells #[] 3)) 3 1 (.slice (some ⟨w.heap.size, 0, none⟩) 0 0) 0 [] := ⟨rfl, .inr ⟨w.heap.size, 0, #[], rfl, Nat.zero_le _, Own.new w #[] 3, Nat.le_refl _, by unfold maxLen; omega, rfl, rfl⟩⟩
    have hb := new_below w (.cells #[] 3)
    have HRR := HR.out _ hb
    have HF : Hid (∀ (a1 : Option Addr) (c1 : Nat) (w1 : World), Rw w1 3 1 (.slice a1 (0 + n) c1) (0 + n) ([] ++ intV xs) → (w.alloc (.cells #[] 3)).grownBy w1 (Value.slice (some ⟨w.heap.size, 0, none⟩) 0 0).ownBlock → ((Value.slice a1 (0 + n) c1).ownBlock = (Value.slice (some ⟨w.heap.size, 0, none⟩) 0 0).ownBlock ∨ (Value.slice a1 (0 + n) c1).ownBlock = some (w.alloc (.cells #[] 3)).heap.size) → IntNew w1 w.heap.size (.slice a1 n c1) xs ∧ Below w.heap.size w w1) := by
      intro a1 c1 w1 h1 h2 h3
      rw [Nat.zero_add] at h1 h3
      refine ⟨⟨by rw [← HN.out]; simpa using h1, fun b q => ?_⟩, hb.grown h2 hb.size (fun k e => by cases e; exact Nat.le_refl _)⟩
      rcases h3 with e | e
      · rw [e] at q; cases q; exact Nat.le_refl _
      · rw [e] at q; cases q; exact hb.size
    go_enter Try.func82, Try.ntmps82
    go_wp2_with (refine wpList_appG okN (by rfl) (.tmp 5) (.tmp 6) (by rfl) _ 0 [] (by rfl) R0 (some ad) n c (intV xs) (by rfl) (by rw [intV_length, HN.out]; omega) HRR (fun e => by cases e) (intV_one xs) (by have := HM.out; omega) ?_; intro a1 c1 w1 q1 q2 q3; have HQ := HF.out a1 c1 w1 q1 q2 q3; clear q1 q2 q3 HF HRR R0)
    go_ret
    exact ⟨_, rfl, HQ⟩
abbrev effV (tv pv : Value) : Value := .agg #[tv, pv]
theorem infoE : (Try.prog.info? 103).map (·.size) = some 2 := by kernel_rfl
set_option maxHeartbeats 1000000 in
set_option maxRecDepth 100000 in
theorem take_as {w : World} {a : Option Addr} {n c : Nat} {xs : List Int} (hl : RowAt w a 1 xs.length (inF xs)) (hn : n = xs.length) (hno : a = none → c = 0) (hle : n ≤ c) (hm : n ≤ 1000000) :
    Calls Try.prog 63 #[.slice a n c] w fun e w' => ∃ v, e = .returned (effV v (.slice none 0 0)) ∧ IntNew w' w.heap.size v xs ∧ Below w.heap.size w w' := by
  have o0 := Own.new w #[.slice none 0 0, .slice none 0 0] 103
  have b0 := new_below w (.cells #[.slice none 0 0, .slice none 0 0] 103)
  have hC := clone_as (hl.below b0) hn hno hle hm
  clear hl hn hno hle hm
  go_enter Try.func63, Try.ntmps63
  go_upto_region 1 with fail
  have hs : w.heap.size ≤ (w.alloc (.cells #[.slice none 0 0, .slice none 0 0] 103)).heap.size := b0.size
  generalize w.alloc (.cells #[.slice none 0 0, .slice none 0 0] 103) = w1 at *
  go_wp2_with fail
  refine hC.mono ?_
  rintro e w2 ⟨v, rfl, i2, b2⟩
  have o2 := o0.below b2
  have B2 := b0.trans (b2.mono hs)
  have I2 := i2.mono hs
  obtain ⟨a1, c1, rfl⟩ := I2.shape
  clear hC o0 b0 i2 b2
  go_wp2_with (refine wpList_put rfl 103 (.tmp 2) (.tmp 5) rfl rfl w.heap.size 0 rfl rfl o2 infoE rfl (by simp) rfl ?_; intro w5 o5 g5)
  have I5 := I2.grown g5 o2 (by decide)
  have B5 := B2.grown g5 B2.size (fun k e => by cases e; exact Nat.le_refl _)
  refine bodyPost_cell1 (g := w.heap.size) (t := 103) rfl rfl rfl o5 Try.underlying103 rfl (by kernel_rfl) ?_
  exact ⟨_, rfl, I5, B5⟩
set_option maxHeartbeats 1000000 in
set_option maxRecDepth 100000 in
theorem put_as {w : World} {B : Nat} {tv : Value} {T : List Int} (hB : B ≤ w.heap.size) (hT : IntNew w B tv T) {a : Option Addr} {n c : Nat} {xs : List Int} (hl : RowAt w a 1 xs.length (inF xs)) (hn : n = xs.length) (hno : a = none → c = 0) (hle : n ≤ c) (hm : n ≤ 1000000) :
    Calls Try.prog 64 #[effV tv (.slice none 0 0), .slice a n c] w fun e w' => ∃ v, e = .returned (effV tv v) ∧ IntNew w' B tv T ∧ IntNew w' B v xs ∧ Below w.heap.size w w' := by
  obtain ⟨ta, tc, rfl⟩ := hT.shape
  have oE := Own.new w #[.slice ta T.length tc, .slice none 0 0] 103
  have b0 := new_below w (.cells #[.slice ta T.length tc, .slice none 0 0] 103)
  have hT0 := hT.below b0
  have hl0 := hl.below b0
  have hs : w.heap.size < (w.alloc (.cells #[.slice ta T.length tc, .slice none 0 0] 103)).heap.size := by rw [World.size_alloc]; omega
  clear hT hl
  go_enter Try.func64, Try.ntmps64
  go_upto_region 1 with fail
  have e1 : (w.alloc (.cells #[.slice ta T.length tc, .slice none 0 0] 103)).heap.size = w.heap.size + 1 := World.size_alloc _ _
  generalize w.alloc (.cells #[.slice ta T.length tc, .slice none 0 0] 103) = w1 at *
  have oR := Own.new w1 #[.slice none 0 0, .slice none 0 0] 103
  have b1 := new_below w1 (.cells #[.slice none 0 0, .slice none 0 0] 103)
  have hs1 : w1.heap.size < (w1.alloc (.cells #[.slice none 0 0, .slice none 0 0] 103)).heap.size := by rw [World.size_alloc]; omega
  have oE1 := oE.below b1
  have hT1 := hT0.below b1
  have hC := clone_as (hl0.below b1) hn hno hle hm
  have B1 := b0.trans (b1.mono b0.size)
  generalize w1.alloc (.cells #[.slice none 0 0, .slice none 0 0] 103) = w2 at *
  rw [e1] at oR
  have hne : ¬ w.heap.size = w.heap.size + 1 := by omega
  have hne2 : ¬ w.heap.size + 1 = w.heap.size := by omega
  have hww : w.heap.size ≤ w.heap.size + 1 := by omega
  clear e1 hl0 hn hno hle hm oE hT0 b0 b1 hs
  go_wp2_with fail
  refine hC.mono ?_
  rintro e w3 ⟨v, rfl, i3, b3⟩
  have oE3 := oE1.below b3
  have oR3 := oR.below b3
  have hT3 := hT1.below b3
  have B3 := B1.trans (b3.mono B1.size)
  have I3 := i3.mono (Nat.le_trans hB B1.size)
  obtain ⟨a1, c1, rfl⟩ := I3.shape
  have oE4 : Own (w3.setCell ⟨w.heap.size, 1, none⟩ (.slice a1 xs.length c1)) w.heap.size #[.slice ta T.length tc, .slice a1 xs.length c1] 103 := by simpa using oE3.set 1 (.slice a1 xs.length c1)
  have oR4 := oR3.other (i := 1) hne2 (.slice a1 xs.length c1)
  have hT4 : IntNew (w3.setCell ⟨w.heap.size, 1, none⟩ (.slice a1 xs.length c1)) B (.slice ta T.length tc) T := ⟨hT3.row.set (hT3.row.ne oE3 (by decide)) 1 _, hT3.new⟩
  have hI4 : IntNew (w3.setCell ⟨w.heap.size, 1, none⟩ (.slice a1 xs.length c1)) B (.slice a1 xs.length c1) xs := ⟨I3.row.set (I3.row.ne oE3 (by decide)) 1 _, I3.new⟩
  have B4 : Below w.heap.size w (w3.setCell ⟨w.heap.size, 1, none⟩ (.slice a1 xs.length c1)) := B3.setCell (Nat.le_refl _) _
  obtain ⟨x0, x1, xf⟩ := own2 oE3
  clear hC oE1 oR hT1 i3 b3 B1 oE3 oR3 hT3 B3 I3 hs1
  go_upto_region 2 with fail
  generalize w3.setCell ⟨w.heap.size, 1, none⟩ (.slice a1 xs.length c1) = w4 at *
  obtain ⟨y0, y1, yf⟩ := own2 oE4
  clear x0 x1 xf
  go_wp2_with (refine wpList_put rfl 103 (.tmp 4) (.tmp 8) rfl rfl (w.heap.size + 1) 0 rfl rfl oR4 infoE rfl (by simp) rfl ?_; intro w5 o5 g5)
  have T5 := hT4.grown g5 oR4 (by decide)
  have I5 := hI4.grown g5 oR4 (by decide)
  have B5 := B4.grown g5 B4.size (fun k e => by cases e; exact hww)
  refine bodyPost_cell1 (g := w.heap.size + 1) (t := 103) rfl rfl rfl o5 Try.underlying103 rfl (by kernel_rfl) ?_
  exact ⟨_, rfl, T5, I5, B5⟩
end Go.Proofs.Ytibcakmodkbliaa
