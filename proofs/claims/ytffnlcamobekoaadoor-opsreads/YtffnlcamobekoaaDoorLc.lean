/-
  CONTRACTS of the kit's LentCode and KeptCode.
-/
import Derived.Test.YtffnlcamobekoaaDoorRv
import Derived.Test.YtffnlcamobekoaaDoorFo
namespace Go.Proofs.YtffnlcamobekoaaDoor
open Go.RowKit
set_option linter.unusedVariables false

/-- Bytes that are lent: a row that holds them, and the mark 77 behind. -/
def LentB (w : World) (g n c : Nat) (xs : List Nat) : Prop := Rw w 5 1 (.slice (some ⟨g, 0, none⟩) (n + 1) c) (n + 1) (nums (xs ++ [77]))
theorem LentB.below {w w' : World} {g n c : Nat} {xs : List Nat} (h : LentB w g n c xs) (hb : Below w.heap.size w w') : LentB w' g n c xs := Rw.on h fun k e => hb.block k (Rw.lt h e)
theorem LentB.lies {w : World} {g n c : Nat} {xs : List Nat} (h : LentB w g n c xs) (hn : n = xs.length) (hb : ∀ c ∈ xs, c < 256) (hm : xs.length ≤ 9223372036854775807) : Lies w (some ⟨g, 0, none⟩) xs := by
  refine ⟨hb, hm, .inr ⟨g, 0, rfl, fun i hi => ?_⟩⟩
  have q := nums_get (xs ++ [77]) i (by simp; omega)
  have e : (xs ++ [77]).getD i 0 = xs.getD i 0 := by simp [List.getD, List.getElem?_append, hi]
  rw [e] at q
  rw [Nat.zero_add]; exact Rw.cells h _ _ q
theorem LentB.mark {w : World} {g n c : Nat} {xs : List Nat} (h : LentB w g n c xs) (hn : n = xs.length) : w.cell? ⟨g, n, none⟩ = some (.int .u8 77) := by
  have q := nums_get (xs ++ [77]) n (by simp; omega)
  have e : (xs ++ [77]).getD n 0 = 77 := by rw [hn]; simp [List.getD]
  rw [e] at q
  exact Rw.cells h _ _ q
set_option maxHeartbeats 1000000 in
theorem kkeptB_as {w : World} {g n c : Nat} {xs : List Nat} {a : Option Addr} {c' : Nat} (h : LentB w g n c xs) (hl : Lies w a xs) (hn : n = xs.length) (hm : n ≤ 65536) :
    Calls Tryd.prog 26 #[.slice (some ⟨g, 0, none⟩) n c, .slice a n c'] w fun e w' => e = .returned (.bool true) ∧ w = w' := by
  have c1 := conv_any (cap := c) (h.lies hn hl.1 hl.2.1) hn
  have c2 := conv_any (cap := c') hl hn
  have hcap : n + 1 ≤ c := by
    obtain ⟨a', c', e, h1, h2⟩ := Rw.shape h
    cases e; exact h1
  have hcell := h.mark hn
  generalize strN xs = SE at *
  clear h hl hn
  go_enter Tryd.func26, Tryd.ntmps26
  go_wp2
  go_ret
  exact ⟨rfl, rfl⟩
set_option maxHeartbeats 1000000 in
set_option maxRecDepth 100000 in
theorem klentB_as {w : World} {a : Option Addr} {n c : Nat} {xs : List Nat} (hl : Lies w a xs) (hn : n = xs.length) (hno : a = none → c = 0) (hm : n ≤ 65536) :
    Calls Tryd.prog 18 #[.slice a n c] w fun e w' => ∃ g c', e = .returned (.slice (some ⟨g, 0, none⟩) n c') ∧ LentB w' g n c' xs ∧ w.heap.size ≤ g ∧ Below w.heap.size w w' := by
  have HL : Hid (Lies w a xs) := hl
  have HN : Hid (n = xs.length) := hn
  have HNO : Hid (a = none → c = 0) := hno
  have R0 : Rw w 5 1 (.slice none 0 0) ([] : List Nat).length (nums []) := ⟨rfl, .inl ⟨rfl, rfl⟩⟩
  have HF : Hid (∀ (a1 : Option Addr) (c1 : Nat) (w1 : World), Rw w1 5 1 (.slice a1 n c1) ([] ++ xs).length (nums ([] ++ xs)) → w.grownBy w1 (Value.slice none 0 0).ownBlock → ((Value.slice a1 n c1).ownBlock = (Value.slice none 0 0).ownBlock ∨ (Value.slice a1 n c1).ownBlock = some w.heap.size) → Rw w1 5 1 (.slice a1 n c1) n (nums xs) ∧ Below w.heap.size w w1 ∧ (∀ b, (Value.slice a1 n c1).ownBlock = some b → w.heap.size ≤ b)) := by
    intro a1 c1 w1 h1 h2 h3
    rw [List.nil_append, ← hn] at h1
    refine ⟨h1, (Below.refl _ _).grown h2 (Nat.le_refl _) (fun k e => by cases e), fun b q => ?_⟩
    rcases h3 with e | e
    · rw [e] at q; cases q
    · rw [e] at q; cases q; exact Nat.le_refl _
  clear hl hn hno
  go_enter Tryd.func18, Tryd.ntmps18
  go_upto_region 3 with (refine wpList_appL (by rfl) (.tmp 4) (.tmp 5) (by rfl) _ [] (by rfl) R0 a n c xs (by rfl) HL.out HN.out HNO.out (by simp; omega) ?_; intro a1 n1 c1 w1 e1 q1 q2 q3; obtain rfl : n1 = n := (by rw [e1, HN.out]; rfl); obtain ⟨r1, b1, m1⟩ := HF.out a1 c1 w1 q1 q2 q3; clear q1 q2 q3 e1 HF R0 HL)
  have oM := Own.new w1 #[.int .u8 77] 5
  have rM := r1.alloc (.cells #[.int .u8 77] 5)
  have HG : Hid (∀ (a2 : Option Addr) (c2 : Nat) (w2 : World), Rw w2 5 1 (.slice a2 (n1 + 1) c2) (n1 + 1) (nums xs ++ [.int .u8 77]) → (w1.alloc (.cells #[.int .u8 77] 5)).grownBy w2 (Value.slice a1 n1 c1).ownBlock → ((Value.slice a2 (n1 + 1) c2).ownBlock = (Value.slice a1 n1 c1).ownBlock ∨ (Value.slice a2 (n1 + 1) c2).ownBlock = some (w1.alloc (.cells #[.int .u8 77] 5)).heap.size) → ∃ g, a2 = some ⟨g, 0, none⟩ ∧ n1 + 1 ≤ c2 ∧ LentB w2 g n1 c2 xs ∧ w.heap.size ≤ g ∧ Below w.heap.size w w2) := by
    intro a2 c2 w2 h1 h2 h3
    obtain ⟨g, cap, cur, e, -, hcap, -⟩ := h1.block (by omega)
    cases e
    have e2 : nums (xs ++ [77]) = nums xs ++ [.int .u8 77] := by rw [nums_append]; rfl
    refine ⟨g, rfl, hcap, by unfold LentB; rw [e2]; exact h1, ?_, (b1.alloc b1.size _).grown h2 (Nat.le_trans b1.size (by simp)) (fun k e => m1 k e)⟩
    rcases h3 with e | e
    · exact m1 g e.symm
    · have hs := b1.size
      simp [Value.ownBlock] at e
      omega
  clear r1 b1 m1
  go_upto_region 4 with (refine wpList_app1 okB (by rfl) (.tmp 7) (.tmp 8) (by rfl) _ n1 (nums xs) (by rfl) rM w1.heap.size [.int .u8 77] (by rfl) oM rfl (by simp [Value.oneCell']) (by omega) ?_; intro a2 c2 w2 q1 q2 q3; obtain ⟨g, ea, hc2, hL2, hg2, hb2⟩ := HG.out a2 c2 w2 q1 q2 (by simpa using q3); clear q1 q2 q3 HG rM oM)
  subst ea
  have e1 : (n1 : Int) ≤ (c2 : Int) := by omega
  have e2 : n1 ≤ c2 := by omega
  have e3 : ¬ c2 = 0 := by omega
  go_wp2
  go_ret
  exact ⟨g, c2, rfl, hL2, hg2, hb2⟩
end Go.Proofs.YtffnlcamobekoaaDoor
