/-
  THE WALK of LexLies.
-/
import Derived.Test.YteeoakbafbnkhaaDoorLiesJ0
import Derived.Test.YteeoakbafbnkhaaDoorLiesJ1
import Derived.Test.YteeoakbafbnkhaaDoorLiesJ2
import Derived.Test.YteeoakbafbnkhaaDoorLiesJ3
namespace Go.Proofs.YteeoakbafbnkhaaDoor
open Go.RowKit
set_option linter.unusedVariables false

theorem lies_i64 {x : Int} (h : (Lit.int .i64 x).wf = true) : -9223372036854775808 ≤ x ∧ x ≤ 9223372036854775807 := by
  simp only [Lit.wf, IntKind.min, IntKind.max, IntKind.signed, IntKind.bits, Bool.and_eq_true, decide_eq_true_eq, if_true] at h
  omega
set_option maxRecDepth 100000 in
theorem lexLies_walk (s : ByteArray) (cut kind : Int) (w : World) (hmax0 : s.size ≤ maxLen) (hc : (Lit.int .i64 cut).wf = true) (hk : (Lit.int .i64 kind).wf = true) (HL : Hid (Laid w)) : Calls Tryd.prog 13 #[.string s, .int .i64 cut, .int .i64 kind] w fun e w' => e = .returned (.bool true) ∧ Below w.heap.size w w' := by
  have hmax : s.size ≤ 9223372036854775807 := hmax0
  clear hmax0
  by_cases hbig : 8192 < s.size
  · go_enter Tryd.func13, Tryd.ntmps13
    go_wp2
    go_ret
    exact ⟨rfl, Below.refl _ _⟩
  · cases h : tokens (bytesN s) with
    | error x =>
      obtain ⟨p, k⟩ := x
      exact lexLies_no s cut kind hbig p k h (by have := tokens_errk _ _ _ h; simp; omega) (by have := tokens_err_at _ _ _ h; rw [bytesN_length] at this; exact this) w HL
    | ok ts =>
      have hlen := tokens_len _ _ h
      rw [bytesN_length] at hlen
      have e7 : cut % 7 = ((cut % 7).toNat : Int) := by omega
      have n0 : ((ts.length : Int) + 1) ≠ 0 := by omega
      have eK0 := Int.emod_nonneg cut n0
      have eK1 := Int.emod_lt_of_pos cut (show 0 < (ts.length : Int) + 1 by omega)
      have hJ : kind % 4 = 0 ∨ kind % 4 = 1 ∨ kind % 4 = 2 ∨ kind % 4 = 3 := by omega
      rcases hJ with hJ | hJ | hJ | hJ
      · exact lexLies_ok0 s cut kind (lies_i64 hc) (lies_i64 hk) hbig ts h ts.length rfl (by omega) (cut % 7).toNat (cut % ((ts.length : Int) + 1)).toNat e7 (by omega) (by omega) (by omega) hJ w HL
      · exact lexLies_ok1 s cut kind (lies_i64 hc) (lies_i64 hk) hbig ts h ts.length rfl (by omega) (cut % 7).toNat (cut % ((ts.length : Int) + 1)).toNat e7 (by omega) (by omega) (by omega) hJ w HL
      · exact lexLies_ok2 s cut kind (lies_i64 hc) (lies_i64 hk) hbig ts h ts.length rfl (by omega) (cut % 7).toNat (cut % ((ts.length : Int) + 1)).toNat e7 (by omega) (by omega) (by omega) hJ w HL
      · exact lexLies_ok3 s cut kind (lies_i64 hc) (lies_i64 hk) hbig ts h ts.length rfl (by omega) (cut % 7).toNat (cut % ((ts.length : Int) + 1)).toNat e7 (by omega) (by omega) (by omega) hJ w HL
end Go.Proofs.YteeoakbafbnkhaaDoor
