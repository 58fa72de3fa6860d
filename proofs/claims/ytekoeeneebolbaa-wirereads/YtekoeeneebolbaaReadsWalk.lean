/-
  THE WALK of WireReads.
-/
import Derived.Test.YtekoeeneebolbaaLent
import Derived.Test.YtekoeeneebolbaaRefGets
import Derived.Test.YtekoeeneebolbaaRefWides
import Derived.Test.YtekoeeneebolbaaRefSums
namespace Go.Proofs.Ytekoeeneebolbaa
open Go.RowKit

set_option maxRecDepth 100000 in
set_option maxHeartbeats 2000000 in
theorem reads_walk (a : Option Addr) (L c : Nat) (xs : List Nat) (p z : Int) (w : World) (hat : At w a xs) (hL : L = xs.length) (hno : a = none → c = 0) (hm : L ≤ 65536) :
    Calls Try.prog 4 #[.slice a L c, .int .i64 p, .int .i64 z] w fun e w' => e = .returned (.bool true) ∧ Below w.heap.size w w' := by
  have X : Hid (At w a xs) := hat
  have HL : Hid (L = xs.length) := hL
  have HN : Hid (a = none → c = 0) := hno
  clear hat hL hno
  go_enter Try.func4, Try.ntmps4
  go_wp2_with fail
  refine (lent_any a L c xs _ X.out HL.out HN.out hm).mono ?_
  rintro e w1 ⟨g, cap, rfl, hlent, hb1⟩
  have T : Hid (Lent w1 w.heap.size g cap xs) := hlent
  have U : Hid (Lies w1 (some ⟨g, 0, none⟩) xs) := lent_lies hlent X.out.1.1 (by rw [← HL.out]; exact hm)
  have V : Hid (Lies w1 a xs) := (X.out.kept hb1).1
  have HB : Hid (Below w.heap.size w w1) := hb1
  clear hlent hb1
  obtain ⟨n1, hn1⟩ : ∃ n1 : Int, n1 = ((gN xs p : Nat) : Int) := ⟨_, rfl⟩
  obtain ⟨n2, hn2⟩ : ∃ n2, n2 = gP xs p := ⟨_, rfl⟩
  obtain ⟨n3, hn3⟩ : ∃ n3, n3 = gE xs p := ⟨_, rfl⟩
  obtain ⟨n4, hn4⟩ : ∃ n4, n4 = zig (gN xs p) := ⟨_, rfl⟩
  obtain ⟨m1, hm1⟩ : ∃ m1 : Int, m1 = ((wN xs p z : Nat) : Int) := ⟨_, rfl⟩
  obtain ⟨m2, hm2⟩ : ∃ m2, m2 = wP xs p z := ⟨_, rfl⟩
  obtain ⟨m3, hm3⟩ : ∃ m3, m3 = wE xs p z := ⟨_, rfl⟩
  have K1 : Hid (n1 = ((gN xs p : Nat) : Int) ∧ n2 = gP xs p ∧ n3 = gE xs p ∧ n4 = zig (gN xs p)) := ⟨hn1, hn2, hn3, hn4⟩
  have K2 : Hid (m1 = ((wN xs p z : Nat) : Int) ∧ m2 = wP xs p z ∧ m3 = wE xs p z) := ⟨hm1, hm2, hm3⟩
  clear hn1 hn2 hn3 hn4 hm1 hm2 hm3
  go_wp2_with fail
  refine (get_any _ L cap xs p _ U.out HL.out).mono ?_
  rw [← K1.out.1, ← K1.out.2.1, ← K1.out.2.2.1]
  rintro e wx ⟨rfl, rfl⟩
  go_wp2_with fail
  refine (rget_any _ L c xs p _ V.out HL.out).mono ?_
  rw [← K1.out.1, ← K1.out.2.1, ← K1.out.2.2.1]
  rintro e wx ⟨rfl, rfl⟩
  go_wp2_with fail
  refine (getInt_any _ L cap xs p _ U.out HL.out).mono ?_
  rw [← K1.out.2.2.2, ← K1.out.2.1, ← K1.out.2.2.1]
  rintro e wx ⟨rfl, rfl⟩
  go_wp2_with fail
  refine (rgetInt_any _ L c xs p _ V.out HL.out).mono ?_
  rw [← K1.out.2.2.2, ← K1.out.2.1, ← K1.out.2.2.1]
  rintro e wx ⟨rfl, rfl⟩
  go_wp2_with fail
  refine (wide_any _ L cap xs p z _ U.out HL.out).mono ?_
  rw [← K2.out.1, ← K2.out.2.1, ← K2.out.2.2]
  rintro e wx ⟨rfl, rfl⟩
  go_wp2_with fail
  refine (rwide_any _ L c xs p z _ V.out HL.out).mono ?_
  rw [← K2.out.1, ← K2.out.2.1, ← K2.out.2.2]
  rintro e wx ⟨rfl, rfl⟩
  go_wp2_with fail
  refine (sum_any _ L cap xs _ U.out HL.out).mono ?_
  rintro e wx ⟨rfl, rfl⟩
  go_wp2_with fail
  refine (rsum_any _ L c xs _ V.out HL.out).mono ?_
  rintro e wx ⟨rfl, rfl⟩
  go_wp2_with fail
  refine (kept_any g cap _ a L c xs _ T.out V.out HL.out hm).mono ?_
  rintro e wx ⟨rfl, rfl⟩
  go_wp2_with fail
  refine (works_any _).mono ?_
  rintro e w2 ⟨rfl, hb2⟩
  go_wp2
  go_ret
  exact ⟨rfl, below_chain HB.out hb2 (Nat.le_refl _)⟩
end Go.Proofs.Ytekoeeneebolbaa
