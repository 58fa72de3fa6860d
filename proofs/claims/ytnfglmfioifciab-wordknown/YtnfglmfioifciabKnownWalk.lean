/-
  THE WALK of WordKnown.
-/
import Derived.Test.YtnfglmfioifciabFaces
namespace Go.Proofs.Ytnfglmfioifciab
open Go.RowKit
set_option linter.unusedVariables false

theorem told_as (op x a b n t : Int) (hn : two op x a b = n) (ht : trap op x b = t) (ha : In a) (hb : In b) (w : World) : Calls Try.prog 11 #[.int .u8 op, .int .u8 x, .int .i64 a, .int .i64 b, .int .i64 n, .int .i64 t] w fun e w' => e = .returned (.bool true) ∧ w = w' := by
  have HN : Hid (two op x a b = n) := hn
  have HT : Hid (trap op x b = t) := ht
  have HA : Hid (In a) := ha
  have HB : Hid (In b) := hb
  clear hn ht ha hb
  go_enter Try.func11, Try.ntmps11
  go_wp2_with fail
  refine (two_as op x a b n t HN.out HT.out HA.out HB.out _).mono ?_
  rintro e w1 ⟨rfl, rfl⟩
  go_wp2
  go_ret
  exact ⟨rfl, rfl⟩

set_option maxRecDepth 100000 in
set_option maxHeartbeats 4000000 in
theorem wordKnown_calls (w : World) : Calls Try.prog 4 #[] w fun e w' => e = .returned (.bool true) ∧ w = w' := by
  go_enter Try.func4, Try.ntmps4
  go_wp2_with fail
  refine (wrap_as 1 128 (-128) (by decide +kernel) ⟨by decide, by decide⟩ _).mono ?_
  rintro e wx ⟨rfl, rfl⟩
  go_wp2_with fail
  refine (wrap_as 2 2147483648 (-2147483648) (by decide +kernel) ⟨by decide, by decide⟩ _).mono ?_
  rintro e wx ⟨rfl, rfl⟩
  go_wp2_with fail
  refine (wrap_as 9 5 0 (by decide +kernel) ⟨by decide, by decide⟩ _).mono ?_
  rintro e wx ⟨rfl, rfl⟩
  go_wp2_with fail
  refine (wrap_as 3 (-9223372036854775808) (-9223372036854775808) (by decide +kernel) ⟨by decide, by decide⟩ _).mono ?_
  rintro e wx ⟨rfl, rfl⟩
  go_wp2_with fail
  refine (fits_as 0 0 false (by decide +kernel) ⟨by decide, by decide⟩ _).mono ?_
  rintro e wx ⟨rfl, rfl⟩
  go_wp2_with fail
  refine (fits_as 4 0 false (by decide +kernel) ⟨by decide, by decide⟩ _).mono ?_
  rintro e wx ⟨rfl, rfl⟩
  go_wp2_with fail
  refine (fits_as 2 (-2147483648) true (by decide +kernel) ⟨by decide, by decide⟩ _).mono ?_
  rintro e wx ⟨rfl, rfl⟩
  go_wp2_with fail
  refine (fits_as 2 2147483648 false (by decide +kernel) ⟨by decide, by decide⟩ _).mono ?_
  rintro e wx ⟨rfl, rfl⟩
  go_wp2_with fail
  refine (bits_as 0 0 (by decide +kernel) _).mono ?_
  rintro e wx ⟨rfl, rfl⟩
  go_wp2_with fail
  refine (bits_as 1 8 (by decide +kernel) _).mono ?_
  rintro e wx ⟨rfl, rfl⟩
  go_wp2_with fail
  refine (bits_as 2 32 (by decide +kernel) _).mono ?_
  rintro e wx ⟨rfl, rfl⟩
  go_wp2_with fail
  refine (bits_as 3 64 (by decide +kernel) _).mono ?_
  rintro e wx ⟨rfl, rfl⟩
  go_wp2_with fail
  refine (told_as 11 1 100 100 (-56) 0 (by decide +kernel) (by decide +kernel) ⟨by decide, by decide⟩ ⟨by decide, by decide⟩ _).mono ?_
  rintro e wx ⟨rfl, rfl⟩
  go_wp2_with fail
  refine (told_as 13 2 1073741824 4 0 0 (by decide +kernel) (by decide +kernel) ⟨by decide, by decide⟩ ⟨by decide, by decide⟩ _).mono ?_
  rintro e wx ⟨rfl, rfl⟩
  go_wp2_with fail
  refine (told_as 12 3 (-9223372036854775808) 1 9223372036854775807 0 (by decide +kernel) (by decide +kernel) ⟨by decide, by decide⟩ ⟨by decide, by decide⟩ _).mono ?_
  rintro e wx ⟨rfl, rfl⟩
  go_wp2_with fail
  refine (told_as 14 1 (-7) 2 (-3) 0 (by decide +kernel) (by decide +kernel) ⟨by decide, by decide⟩ ⟨by decide, by decide⟩ _).mono ?_
  rintro e wx ⟨rfl, rfl⟩
  go_wp2_with fail
  refine (told_as 15 1 (-7) 2 (-1) 0 (by decide +kernel) (by decide +kernel) ⟨by decide, by decide⟩ ⟨by decide, by decide⟩ _).mono ?_
  rintro e wx ⟨rfl, rfl⟩
  go_wp2_with fail
  refine (told_as 14 1 (-128) (-1) (-128) 0 (by decide +kernel) (by decide +kernel) ⟨by decide, by decide⟩ ⟨by decide, by decide⟩ _).mono ?_
  rintro e wx ⟨rfl, rfl⟩
  go_wp2_with fail
  refine (told_as 15 1 (-128) (-1) 0 0 (by decide +kernel) (by decide +kernel) ⟨by decide, by decide⟩ ⟨by decide, by decide⟩ _).mono ?_
  rintro e wx ⟨rfl, rfl⟩
  go_wp2_with fail
  refine (told_as 14 3 (-9223372036854775808) (-1) (-9223372036854775808) 0 (by decide +kernel) (by decide +kernel) ⟨by decide, by decide⟩ ⟨by decide, by decide⟩ _).mono ?_
  rintro e wx ⟨rfl, rfl⟩
  go_wp2_with fail
  refine (told_as 15 3 (-9223372036854775808) (-1) 0 0 (by decide +kernel) (by decide +kernel) ⟨by decide, by decide⟩ ⟨by decide, by decide⟩ _).mono ?_
  rintro e wx ⟨rfl, rfl⟩
  go_wp2_with fail
  refine (told_as 14 3 5 0 0 1 (by decide +kernel) (by decide +kernel) ⟨by decide, by decide⟩ ⟨by decide, by decide⟩ _).mono ?_
  rintro e wx ⟨rfl, rfl⟩
  go_wp2_with fail
  refine (told_as 15 2 5 4294967296 0 1 (by decide +kernel) (by decide +kernel) ⟨by decide, by decide⟩ ⟨by decide, by decide⟩ _).mono ?_
  rintro e wx ⟨rfl, rfl⟩
  go_wp2_with fail
  refine (told_as 19 1 1 7 (-128) 0 (by decide +kernel) (by decide +kernel) ⟨by decide, by decide⟩ ⟨by decide, by decide⟩ _).mono ?_
  rintro e wx ⟨rfl, rfl⟩
  go_wp2_with fail
  refine (told_as 19 1 1 8 1 0 (by decide +kernel) (by decide +kernel) ⟨by decide, by decide⟩ ⟨by decide, by decide⟩ _).mono ?_
  rintro e wx ⟨rfl, rfl⟩
  go_wp2_with fail
  refine (told_as 20 1 (-128) 7 (-1) 0 (by decide +kernel) (by decide +kernel) ⟨by decide, by decide⟩ ⟨by decide, by decide⟩ _).mono ?_
  rintro e wx ⟨rfl, rfl⟩
  go_wp2_with fail
  refine (told_as 20 1 (-128) (-1) (-1) 0 (by decide +kernel) (by decide +kernel) ⟨by decide, by decide⟩ ⟨by decide, by decide⟩ _).mono ?_
  rintro e wx ⟨rfl, rfl⟩
  go_wp2_with fail
  refine (told_as 19 3 1 63 (-9223372036854775808) 0 (by decide +kernel) (by decide +kernel) ⟨by decide, by decide⟩ ⟨by decide, by decide⟩ _).mono ?_
  rintro e wx ⟨rfl, rfl⟩
  go_wp2_with fail
  refine (told_as 20 3 (-9223372036854775808) 63 (-1) 0 (by decide +kernel) (by decide +kernel) ⟨by decide, by decide⟩ ⟨by decide, by decide⟩ _).mono ?_
  rintro e wx ⟨rfl, rfl⟩
  go_wp2_with fail
  refine (told_as 19 2 1 (-1) (-2147483648) 0 (by decide +kernel) (by decide +kernel) ⟨by decide, by decide⟩ ⟨by decide, by decide⟩ _).mono ?_
  rintro e wx ⟨rfl, rfl⟩
  go_wp2_with fail
  refine (told_as 21 1 1 1 0 0 (by decide +kernel) (by decide +kernel) ⟨by decide, by decide⟩ ⟨by decide, by decide⟩ _).mono ?_
  rintro e wx ⟨rfl, rfl⟩
  go_wp2_with fail
  refine (told_as 11 0 1 1 0 0 (by decide +kernel) (by decide +kernel) ⟨by decide, by decide⟩ ⟨by decide, by decide⟩ _).mono ?_
  rintro e wx ⟨rfl, rfl⟩
  go_wp2_with fail
  refine (told_as 14 4 1 0 0 0 (by decide +kernel) (by decide +kernel) ⟨by decide, by decide⟩ ⟨by decide, by decide⟩ _).mono ?_
  rintro e wx ⟨rfl, rfl⟩
  go_wp2_with fail
  refine (one_as 21 1 (-128) (-128) (by decide +kernel) ⟨by decide, by decide⟩ _).mono ?_
  rintro e wx ⟨rfl, rfl⟩
  go_wp2_with fail
  refine (one_as 22 1 0 (-1) (by decide +kernel) ⟨by decide, by decide⟩ _).mono ?_
  rintro e wx ⟨rfl, rfl⟩
  go_wp2_with fail
  refine (one_as 11 1 5 0 (by decide +kernel) ⟨by decide, by decide⟩ _).mono ?_
  rintro e wx ⟨rfl, rfl⟩
  go_wp2_with fail
  refine (one_as 21 7 5 0 (by decide +kernel) ⟨by decide, by decide⟩ _).mono ?_
  rintro e wx ⟨rfl, rfl⟩
  go_wp2_with fail
  refine (test_as 25 1 200 0 true (by decide +kernel) ⟨by decide, by decide⟩ ⟨by decide, by decide⟩ _).mono ?_
  rintro e wx ⟨rfl, rfl⟩
  go_wp2_with fail
  refine (test_as 25 2 200 0 false (by decide +kernel) ⟨by decide, by decide⟩ ⟨by decide, by decide⟩ _).mono ?_
  rintro e wx ⟨rfl, rfl⟩
  go_wp2_with fail
  refine (test_as 11 1 0 0 false (by decide +kernel) ⟨by decide, by decide⟩ ⟨by decide, by decide⟩ _).mono ?_
  rintro e wx ⟨rfl, rfl⟩
  go_wp2_with fail
  refine (test_as 23 5 0 0 false (by decide +kernel) ⟨by decide, by decide⟩ ⟨by decide, by decide⟩ _).mono ?_
  rintro e wx ⟨rfl, rfl⟩
  go_wp2_with fail
  refine (test_as 23 1 256 0 true (by decide +kernel) ⟨by decide, by decide⟩ ⟨by decide, by decide⟩ _).mono ?_
  rintro e wx ⟨rfl, rfl⟩
  go_wp2_with fail
  refine (works_any _).mono ?_
  rintro e wx ⟨rfl, rfl⟩
  go_wp2
  go_ret
  exact ⟨rfl, rfl⟩
end Go.Proofs.Ytnfglmfioifciab
