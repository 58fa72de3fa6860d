/-
  CONTRACTS of the kit's SameInts, SameInstr, SameInstrs where both are the same.
-/
import Derived.Test.YtjfdlphkmpkjdaaDoorKt
namespace Go.Proofs.YtjfdlphkmpkjdaaDoor
open Go.RowKit
set_option linter.unusedVariables false

set_option maxHeartbeats 2000000 in
set_option maxRecDepth 100000 in
theorem sameIns_eq {w : World} {x : In} {a a' : Option Addr} {n c c' : Nat} (hn : n = x.arms.length) (h : ArmLies w a x.arms) (h' : ArmLies w a' x.arms) (hm : n ≤ 9223372036854775807) :
    Calls Tryd.prog 18 #[insV x (.slice a n c), insV x (.slice a' n c')] w fun e w' => e = .returned (.bool true) ∧ Below w.heap.size w w' := by
  have HN : Hid (n = x.arms.length) := hn
  have o1 := (Own.new w #[.int .u8 (x.op : Int), .int .i64 x.a, .int .i64 x.b, .slice a n c] 24).alloc (.cells #[.int .u8 (x.op : Int), .int .i64 x.a, .int .i64 x.b, .slice a' n c'] 24)
  have o2 := Own.new (w.alloc (.cells #[.int .u8 (x.op : Int), .int .i64 x.a, .int .i64 x.b, .slice a n c] 24)) #[.int .u8 (x.op : Int), .int .i64 x.a, .int .i64 x.b, .slice a' n c'] 24
  rw [World.size_alloc] at o2
  have hb0 : Below w.heap.size w ((w.alloc (.cells #[.int .u8 (x.op : Int), .int .i64 x.a, .int .i64 x.b, .slice a n c] 24)).alloc (.cells #[.int .u8 (x.op : Int), .int .i64 x.a, .int .i64 x.b, .slice a' n c'] 24)) := (new_below _ _).alloc (by simp) _
  have H1 : Hid (ArmLies ((w.alloc (.cells #[.int .u8 (x.op : Int), .int .i64 x.a, .int .i64 x.b, .slice a n c] 24)).alloc (.cells #[.int .u8 (x.op : Int), .int .i64 x.a, .int .i64 x.b, .slice a' n c'] 24)) a x.arms) := h.below hb0
  have H2 : Hid (ArmLies ((w.alloc (.cells #[.int .u8 (x.op : Int), .int .i64 x.a, .int .i64 x.b, .slice a n c] 24)).alloc (.cells #[.int .u8 (x.op : Int), .int .i64 x.a, .int .i64 x.b, .slice a' n c'] 24)) a' x.arms) := h'.below hb0
  unfold insV
  generalize x.arms = ar at *
  generalize (x.op : Int) = N at *
  generalize x.a = XA at *
  generalize x.b = XB at *
  clear hn h h'
  go_enter Tryd.func18, Tryd.ntmps18
  go_upto_region 1 with fail
  generalize (w.alloc (.cells #[.int .u8 N, .int .i64 XA, .int .i64 XB, .slice a n c] 24)).alloc (.cells #[.int .u8 N, .int .i64 XA, .int .i64 XB, .slice a' n c'] 24) = w2 at *
  obtain ⟨x0, x1, x2, x3, xf⟩ := own4 o1
  obtain ⟨y0, y1, y2, y3, yf⟩ := own4 o2
  go_wp2_with fail
  go_loopw [5] (fun i wr => ∃ k q : Nat, k ≤ n ∧ i = .int .i64 (k : Int) ∧ wr = w2.drewN q) (fun i _ => n - (intOf i).toNat)
  case atStart => exact ⟨0, 0, Nat.zero_le _, rfl, rfl⟩
  case round =>
    obtain ⟨k, q, hk, rfl, rfl⟩ := hrel
    by_cases hlt : k < n
    · have hkx : k < ar.length := by rw [← HN.out]; exact hlt
      rcases H1.out.lies with h0 | ⟨b, off, rfl, hbl, hc⟩
      · rw [h0] at hkx; cases hkx
      rcases H2.out.lies with h0 | ⟨b', off', rfl, hbl', hc'⟩
      · rw [h0] at hkx; cases hkx
      obtain ⟨d1, d2⟩ := hc k hkx
      obtain ⟨d3, d4⟩ := hc' k hkx
      generalize ar.getD k (0, 0) = V at *
      obtain ⟨V1, V2⟩ := V
      simp only at d1 d2 d3 d4
      clear hc hc'
      have hlt2 : (k : Int) < (n : Int) := by omega
      have hk0 : (0 : Int) ≤ (k : Int) := by omega
      go_wp2_with fail
      go_quiet (fail)
      go_wp2
      go_roundw
      case rel => exact ⟨k + 1, _, hlt, by go_num, rfl⟩
      case measure => simp [intOf]; omega
    · go_wp2
      go_ret
      exact ⟨rfl, below_drawn hb0 q⟩
end Go.Proofs.YtjfdlphkmpkjdaaDoor
