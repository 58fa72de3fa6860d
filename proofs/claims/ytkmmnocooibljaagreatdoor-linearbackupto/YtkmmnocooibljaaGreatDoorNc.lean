/-
  The kit's SameLines; how many lines and arms.
-/
import Derived.Test.YtkmmnocooibljaaGreatDoorNb
namespace Go.Proofs.YtkmmnocooibljaaGreatDoor
open Go.RowKit
set_option linter.unusedVariables false

set_option maxHeartbeats 4000000 in
set_option maxRecDepth 100000 in
theorem kWide_as {w : World} {a : Option Addr} {n c : Nat} {xs : List LnP} (hn : n = xs.length) (h : LnsIn w a xs) :
    Calls Tryz.prog 39 #[.slice a n c] w fun e w' => ∃ r : Int, e = .returned (.int .i64 r) ∧ Below w.heap.size w w' := by
  have HN : Hid (n = xs.length) := hn
  have H1 : Hid (RowAt w a 5 xs.length (lnF xs)) := h.row
  have hm : n ≤ 140737488355328 := by rw [hn]; exact h.mx
  clear hn h
  go_enter Tryz.func39, Tryz.ntmps39
  go_wp2_with fail
  go_loopw [3, 4] (fun s i wr => (∃ r : Int, s = .int .i64 r) ∧ ∃ k : Nat, k ≤ n ∧ i = .int .i64 (k : Int) ∧ wr = w) (fun _ i _ => n - (intOf i).toNat)
  case atStart => exact ⟨⟨_, rfl⟩, 0, Nat.zero_le _, rfl, rfl⟩
  case round =>
    obtain ⟨⟨r, rfl⟩, k, hk, rfl, rfl⟩ := hrel
    by_cases hlt : k < n
    · have hkx : k < xs.length := by rw [← HN.out]; exact hlt
      obtain ⟨b1, o1, rfl, g1⟩ := H1.out.at hkx
      unfold lnF at g1
      generalize xs.getD k zLn = X at *
      have d4 : wr.cell? ⟨b1, o1 + k * 5 + 4, none⟩ = some (.slice X.ao X.x.arms.length X.cp) := g1 4 (by omega)
      generalize X.ao = pa at *
      generalize X.x.arms.length = pn at *
      generalize X.cp = pc at *
      have hlt2 : (k : Int) < (n : Int) := by omega
      have hk0 : (0 : Int) ≤ (k : Int) := by omega
      clear g1 H1
      go_wp2
      refine ⟨⟨⟨_, rfl⟩, k + 1, hlt, by go_num, trivial⟩, ?_⟩
      simp [intOf]; omega
    · obtain rfl : k = n := by omega
      go_wp2
      go_ret
      exact ⟨_, rfl, Below.refl _ _⟩
set_option maxHeartbeats 4000000 in
set_option maxRecDepth 100000 in
theorem few_as {w : World} {a : Option Addr} {n c : Nat} {xs : List LnP} (hn : n = xs.length) (h : LnsIn w a xs) :
    Calls Tryz.prog 9 #[.slice a n c] w fun e w' => ∃ b : Bool, e = .returned (.bool b) ∧ Below w.heap.size w w' := by
  have hC := kWide_as (c := c) hn h
  clear hn h
  go_enter Tryz.func9, Tryz.ntmps9
  go_wp2_with fail
  refine Calls.mono hC ?_
  rintro e w3 ⟨r, rfl, b3⟩
  go_wp2
  go_ret
  exact ⟨_, rfl, b3⟩
end Go.Proofs.YtkmmnocooibljaaGreatDoor
