/-
  THE WALK of WordWraps.
-/
import Derived.Test.YtnfglmfioifciaaRefWrap
namespace Go.Proofs.Ytnfglmfioifciaa
open Go.RowKit
set_option linter.unusedVariables false

set_option maxRecDepth 100000 in
theorem wordWraps_calls (x n : Int) (h0 : 0 ≤ x) (h255 : x ≤ 255) (hn : In n) (w : World) :
    Calls Try.prog 3 #[.int .u8 x, .int .i64 n] w fun e w' => e = .returned (.bool true) ∧ w = w' := by
  have HI : Hid (In n) := hn
  obtain ⟨B, hB⟩ : ∃ B : Int, Hid ((nb x : Int) = B) := ⟨_, rfl⟩
  obtain ⟨f, hf⟩ : ∃ f : Bool, Hid (fits x n = f) := ⟨_, rfl⟩
  obtain ⟨m, hm⟩ : ∃ m : Int, Hid (wrp x n = m) := ⟨_, rfl⟩
  clear hn
  go_enter Try.func3, Try.ntmps3
  go_wp2_with fail
  refine (bits_as x B hB.out _).mono ?_
  rintro e wx ⟨rfl, rfl⟩
  go_wp2_with fail
  refine (rbits_as x B hB.out _).mono ?_
  rintro e wx ⟨rfl, rfl⟩
  go_wp2_with fail
  refine (fits_as x n f hf.out HI.out _).mono ?_
  rintro e wx ⟨rfl, rfl⟩
  go_wp2_with fail
  refine (rfits_as x n f hf.out _).mono ?_
  rintro e wx ⟨rfl, rfl⟩
  go_wp2_with fail
  refine (wrap_as x n m hm.out HI.out _).mono ?_
  rintro e wx ⟨rfl, rfl⟩
  go_wp2_with fail
  refine (rwrap_as x n m hm.out _).mono ?_
  rintro e wx ⟨rfl, rfl⟩
  go_wp2_with fail
  refine (works_any _).mono ?_
  rintro e wx ⟨rfl, rfl⟩
  go_wp2
  go_ret
  exact ⟨rfl, rfl⟩
end Go.Proofs.Ytnfglmfioifciaa
