/-
  THE WALK of LexEach, whatever it is handed.
-/
import Derived.Test.YtpjmdiofkkpbgaaDoorEachWalk
namespace Go.Proofs.YtpjmdiofkkpbgaaDoor
open Go.RowKit Go.Shelf
set_option linter.unusedVariables false

theorem each_i64 {x : Int} (h : (Lit.int .i64 x).wf = true) : -9223372036854775808 ≤ x ∧ x ≤ 9223372036854775807 := by
  simp only [Lit.wf, IntKind.min, IntKind.max, IntKind.signed, IntKind.bits, Bool.and_eq_true, decide_eq_true_eq, if_true] at h
  omega
theorem row_len (l : List Nat) : (rowOf (tokens l)).length ≤ l.length := by
  cases h : tokens l with
  | ok ts => exact tokens_len l ts h
  | error x => exact Nat.zero_le _
set_option maxRecDepth 100000 in
theorem lexEach_walk (s : ByteArray) (stop : Int) (w : World) (hmax0 : s.size ≤ maxLen) (hs : (Lit.int .i64 stop).wf = true) (HL : Hid (Laid w)) : Calls Tryd.prog 4 #[.string s, .int .i64 stop] w fun e w' => e = .returned (.bool true) ∧ Below w.heap.size w w' := by
  have hmax : s.size ≤ 9223372036854775807 := hmax0
  clear hmax0
  by_cases hbig : 8192 < s.size
  · go_enter Tryd.func4, Tryd.ntmps4
    go_wp2
    have b4 : Boxed ((w.alloc (.cells #[.int .i64 stop] 3)).alloc (.cells #[.bool true] 4)) (w.heap.size + 1) 4 (.bool true) := by
      have := Boxed.new (w.alloc (.cells #[.int .i64 stop] 3)) 4 (.bool true)
      rwa [World.size_alloc] at this
    refine bodyPost_ret (each_results (g := w.heap.size) rfl b4) rfl ?_
    exact ⟨rfl, ((Below.refl _ _).alloc (Nat.le_refl _) _).alloc (by simp) _⟩
  · have hlen := row_len (bytesN s)
    rw [bytesN_length] at hlen
    have n0 : (((rowOf (tokens (bytesN s))).length : Int) + 1) ≠ 0 := by omega
    have eK0 := Int.emod_nonneg stop n0
    have eK1 := Int.emod_lt_of_pos stop (show 0 < ((rowOf (tokens (bytesN s))).length : Int) + 1 by omega)
    exact callsIn_wide.1 (lexEach_in s stop (each_i64 hs) hbig _ rfl _ rfl _ rfl (by omega) (stop % (((rowOf (tokens (bytesN s))).length : Int) + 1)).toNat (by omega) (by omega) w HL)
end Go.Proofs.YtpjmdiofkkpbgaaDoor
