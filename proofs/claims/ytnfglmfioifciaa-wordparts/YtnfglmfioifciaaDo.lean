/-
  CONTRACT of the law's own do.
-/
import Derived.Test.YtnfglmfioifciaaFaces
import Derived.Test.YtnfglmfioifciaaLaws
namespace Go.Proofs.Ytnfglmfioifciaa
open Go.RowKit
theorem do_as (op x a b n : Int) (hn : two op x a b = n) (ha : In a) (hb : In b) (w : World) : Calls Try.prog 23 #[.int .u8 op, .int .u8 x, .int .i64 a, .int .i64 b] w fun e w' => e = .returned (.int .i64 n) ∧ w = w' := by
  subst hn
  have HA : Hid (In a) := ha
  have HB : Hid (In b) := hb
  clear ha hb
  go_enter Try.func23, Try.ntmps23
  go_wp2_with fail
  refine (two_as op x a b _ _ rfl rfl HA.out HB.out _).mono ?_
  rintro e w1 ⟨rfl, rfl⟩
  go_wp2
  go_ret
  exact ⟨rfl, rfl⟩
end Go.Proofs.Ytnfglmfioifciaa
