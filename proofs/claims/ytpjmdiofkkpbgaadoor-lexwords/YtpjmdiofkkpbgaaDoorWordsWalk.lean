/-
  THE WALKS of LexWords and LexNames.
-/
import Derived.Test.YtpjmdiofkkpbgaaDoorWorks
import Derived.Test.YtpjmdiofkkpbgaaDoorNamesMath
namespace Go.Proofs.YtpjmdiofkkpbgaaDoor
open Go.RowKit
set_option linter.unusedVariables false

set_option maxRecDepth 100000 in
theorem lexWords_walk (s : ByteArray) (w : World) (hmax0 : s.size ≤ maxLen) (HL : Hid (Laid w)) : Calls Tryd.prog 5 #[.string s] w fun e w' => e = .returned (.bool true) ∧ Below w.heap.size w w' := by
  have hmax : s.size ≤ 9223372036854775807 := hmax0
  clear hmax0
  by_cases hbig : 8192 < s.size
  · go_enter Tryd.func5, Tryd.ntmps5
    go_wp2
    go_ret
    exact ⟨rfl, Below.refl _ _⟩
  · obtain ⟨X, hX⟩ : ∃ X, Hid (strN (quoteN (bytesN s)) = X) := ⟨_, rfl⟩
    obtain ⟨b, hb⟩ : ∃ b, Hid (nameB (bytesN s) = b) := ⟨_, rfl⟩
    obtain ⟨k, hk⟩ : ∃ b, Hid (keptB (bytesN s) = b) := ⟨_, rfl⟩
    have B0 : Hid (Below w.heap.size w w) := Below.refl _ _
    go_enter Tryd.func5, Tryd.ntmps5
    go_wp2_with fail
    refine (xquote_as s X (by omega) hX.out _).mono ?_
    rintro e w1 ⟨rfl, bel⟩
    have B1 : Hid (Below w.heap.size w w1) := below_chain B0.out bel (Nat.le_refl _)
    clear bel
    go_wp2_with fail
    refine (rquote_as s X (by omega) hX.out _).mono ?_
    rintro e w2 ⟨rfl, bel⟩
    have B2 : Hid (Below w.heap.size w w2) := below_chain B1.out bel (Nat.le_refl _)
    clear bel
    go_wp2_with fail
    refine (xname_as s b (by omega) hb.out _).mono ?_
    rintro e w3 ⟨rfl, bel⟩
    have B3 : Hid (Below w.heap.size w w3) := below_chain B2.out bel (Nat.le_refl _)
    clear bel
    go_wp2_with fail
    refine (rname_as s b (by omega) hb.out _).mono ?_
    rintro e w4 ⟨rfl, bel⟩
    have B4 : Hid (Below w.heap.size w w4) := below_chain B3.out bel (Nat.le_refl _)
    clear bel
    go_wp2_with fail
    refine (xkept_as s k hk.out _).mono ?_
    rintro e w5 ⟨rfl, bel⟩
    have B5 : Hid (Below w.heap.size w w5) := below_chain B4.out bel (Nat.le_refl _)
    clear bel
    go_wp2_with fail
    refine (rkept_as s k hk.out _).mono ?_
    rintro e w6 ⟨rfl, bel⟩
    have B6 : Hid (Below w.heap.size w w6) := below_chain B5.out bel (Nat.le_refl _)
    clear bel
    go_wp2_with fail
    refine (works_any _ (HL.out.on B6.out)).mono ?_
    rintro e w7 ⟨rfl, bel⟩
    go_wp2
    go_ret
    exact ⟨rfl, below_chain B6.out bel (Nat.le_refl _)⟩
end Go.Proofs.YtpjmdiofkkpbgaaDoor
