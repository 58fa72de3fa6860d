/-
  THE WALK of LexBack.
-/
import Derived.Test.YtpjmdiofkkpbgaaDoorWorks
import Derived.Test.YtpjmdiofkkpbgaaDoorBackMath
namespace Go.Proofs.YtpjmdiofkkpbgaaDoor
open Go.RowKit
set_option linter.unusedVariables false

theorem piece_byte (c : Nat) (h : c < 256) : ∀ d ∈ pieceN c, d < 256 := by
  have hx : ∀ d, d < 16 → hexC d < 256 := by intro d hd; unfold hexC; split <;> omega
  intro d hd
  unfold pieceN at hd
  split at hd
  · simp at hd; rcases hd with rfl | rfl <;> omega
  · split at hd
    · simp at hd; rcases hd with rfl | rfl <;> omega
    · split at hd
      · simp at hd; rcases hd with rfl | rfl <;> omega
      · split at hd
        · simp at hd; rcases hd with rfl | rfl <;> omega
        · split at hd
          · simp at hd
            have h1 := hx (c / 16) (by omega)
            have h2 := hx (c % 16) (by omega)
            rcases hd with rfl | rfl | rfl | rfl <;> omega
          · simp at hd; omega
theorem quote_byte (l : List Nat) (h : ∀ c ∈ l, c < 256) : ∀ d ∈ quoteN l, d < 256 := by
  intro d hd
  unfold quoteN at hd
  simp only [List.mem_cons, List.mem_append, List.mem_flatMap, List.not_mem_nil, or_false] at hd
  rcases hd with rfl | ⟨c, hc, hd⟩ | rfl
  · omega
  · exact piece_byte c (h c hc) d hd
  · omega
set_option maxRecDepth 100000 in
set_option maxHeartbeats 1000000 in
theorem lexBack_walk (s : ByteArray) (w : World) (hmax0 : s.size ≤ maxLen) (HL : Hid (Laid w)) : Calls Tryd.prog 7 #[.string s] w fun e w' => e = .returned (.bool true) ∧ Below w.heap.size w w' := by
  have hmax : s.size ≤ 9223372036854775807 := hmax0
  clear hmax0
  by_cases hbig : 8192 < s.size
  · go_enter Tryd.func7, Tryd.ntmps7
    go_wp2
    go_ret
    exact ⟨rfl, Below.refl _ _⟩
  · obtain ⟨X, hX⟩ : ∃ X, Hid (strN (quoteN (bytesN s)) = X) := ⟨_, rfl⟩
    have hb := bytesN_lt s
    have hl : (bytesN s).length ≤ 8192 := by rw [bytesN_length]; omega
    have hXB : bytesN X = quoteN (bytesN s) := by rw [← hX.out]; exact bytesN_strN _ (quote_byte _ hb)
    have hpl := pieces_len (bytesN s)
    have hql : (quoteN (bytesN s)).length = ((bytesN s).flatMap pieceN).length + 2 := by unfold quoteN; rw [List.length_cons, List.length_append]; rfl
    have hXs : X.size = ((bytesN s).flatMap pieceN).length + 2 := by rw [← bytesN_length, hXB, hql]
    have hX1 : 2 ≤ X.size := by omega
    have hX2 : X.size ≤ 65536 := by omega
    have HT : Hid (tokens (bytesN X) = .ok [(3, bytesN s, 0, 0, X.size)]) := by
      unfold Hid; rw [hXB, tokens_quote _ hb hl, hXs, hql]
    obtain ⟨Y, hY⟩ : ∃ Y, X.extract 0 (X.size - 1) = Y := ⟨_, rfl⟩
    have HT2 : Hid (tokens (bytesN Y) = .error (0, 31)) := by
      unfold Hid
      rw [← hY, bytesN_extract, List.drop_zero, hXB, hXs]
      have e : (quoteN (bytesN s)).take (((bytesN s).flatMap pieceN).length + 2 - 1 - 0) = 34 :: (bytesN s).flatMap pieceN := by
        unfold quoteN
        rw [show ((bytesN s).flatMap pieceN).length + 2 - 1 - 0 = ((bytesN s).flatMap pieceN).length + 1 by omega, List.take_succ_cons, List.take_left']
        rfl
      rw [e]; exact tokens_open _ hb hl
    have hYs : Y.size ≤ 1048576 := by rw [← hY, ByteArray.size_extract]; omega
    have hsub : ((X.size : Int) - 1).toNat = X.size - 1 := by omega
    have B0 : Hid (Below w.heap.size w w) := Below.refl _ _
    clear hb hl hXB hpl hql hXs
    go_enter Tryd.func7, Tryd.ntmps7
    go_wp2_with fail
    refine (xquote_as s X (by omega) hX.out _).mono ?_
    rintro e w1 ⟨rfl, bel⟩
    have B1 : Hid (Below w.heap.size w w1) := below_chain B0.out bel (Nat.le_refl _)
    clear bel
    go_wp2_with fail
    refine (tok_ok (by omega) _ HT.out (HL.out.on B1.out)).mono ?_
    rintro e w2 ⟨v, rfl, own, bel⟩
    have B2 : Hid (Below w.heap.size w w2) := below_chain B1.out bel (Nat.le_refl _)
    obtain ⟨ao, cap, rfl⟩ := own_form own
    have own' := own
    rcases own.2 with ⟨q, _⟩ | ⟨g, cap', cur, q, hB, hg, hle, hm, hs, ht⟩
    · simp at q
    · simp only [Value.slice.injEq] at q
      obtain ⟨rfl, _, rfl⟩ := q
      have c0 : w2.cell? ⟨g, 0, none⟩ = some (.int .u8 3) := own'.cellAt 0 (by simp)
      have c1 : w2.cell? ⟨g, 1, none⟩ = some (.string s) := by rw [own'.cellAt 1 (by simp)]; show some (Value.string (strN (bytesN s))) = _; rw [strN_bytesN]
      have c2 : w2.cell? ⟨g, 2, none⟩ = some (.int .u64 0) := own'.cellAt 2 (by simp)
      have c3 : w2.cell? ⟨g, 3, none⟩ = some (.int .i64 0) := own'.cellAt 3 (by simp)
      have c4 : w2.cell? ⟨g, 4, none⟩ = some (.int .i64 (X.size : Int)) := own'.cellAt 4 (by simp)
      clear own own' hg hle hm hs ht hB bel
      go_wp2_with fail
      refine (tok_no hYs 0 31 HT2.out (HL.out.on B2.out)).mono ?_
      rintro e w3 ⟨rfl, bel⟩
      have B3 : Hid (Below w.heap.size w w3) := below_chain B2.out bel (Nat.le_refl _)
      clear bel
      go_wp2_with fail
      refine (works_any _ (HL.out.on B3.out)).mono ?_
      rintro e w4 ⟨rfl, bel⟩
      go_wp2
      go_ret
      exact ⟨rfl, below_chain B3.out bel (Nat.le_refl _)⟩
end Go.Proofs.YtpjmdiofkkpbgaaDoor
