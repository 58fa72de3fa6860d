/-
  CONTRACTS of the landed heap's inner calls: find, rowOf, textOf, New, Used.
-/
import Derived.Test.YtchamkiffkngjaaPay
namespace Go.Proofs.Ytchamkiffkngjaa
open Go.RowKit
set_option linter.unusedVariables false

/-- What a reference is found as. -/
def thV (k b : Nat) : Value := if k = 0 then .nilIface else refV k b
def rowV (k b : Nat) : Value := if k = 0 ∨ k = 1 then .pointer none else ptr b
def M.idx (m : M) (ref : Int) : Nat := (ref - 1).toNat
theorem ta_nil_69 (w : World) : (Instr.typeAssert .nilIface 66 50 true).run Try.prog w = .ok (.tuple #[.pointer none, .bool false]) w := by kernel_rfl
theorem ta_nil_79 (w : World) : (Instr.typeAssert .nilIface 66 60 true).run Try.prog w = .ok (.tuple #[.pointer none, .bool false]) w := by kernel_rfl
theorem ta_nil_84 (w : World) : (Instr.typeAssert .nilIface 66 47 true).run Try.prog w = .ok (.tuple #[.pointer none, .bool false]) w := by kernel_rfl
theorem ta_69_69 (v : Value) (w : World) : (Instr.typeAssert (.iface 50 v) 66 50 true).run Try.prog w = .ok (.tuple #[v, .bool true]) w := by kernel_rfl
theorem ta_69_79 (v : Value) (w : World) : (Instr.typeAssert (.iface 50 v) 66 60 true).run Try.prog w = .ok (.tuple #[.pointer none, .bool false]) w := by kernel_rfl
theorem ta_69_84 (v : Value) (w : World) : (Instr.typeAssert (.iface 50 v) 66 47 true).run Try.prog w = .ok (.tuple #[.pointer none, .bool false]) w := by kernel_rfl
theorem ta_79_69 (v : Value) (w : World) : (Instr.typeAssert (.iface 60 v) 66 50 true).run Try.prog w = .ok (.tuple #[.pointer none, .bool false]) w := by kernel_rfl
theorem ta_79_79 (v : Value) (w : World) : (Instr.typeAssert (.iface 60 v) 66 60 true).run Try.prog w = .ok (.tuple #[v, .bool true]) w := by kernel_rfl
theorem ta_79_84 (v : Value) (w : World) : (Instr.typeAssert (.iface 60 v) 66 47 true).run Try.prog w = .ok (.tuple #[.pointer none, .bool false]) w := by kernel_rfl
theorem ta_84_69 (v : Value) (w : World) : (Instr.typeAssert (.iface 47 v) 66 50 true).run Try.prog w = .ok (.tuple #[.pointer none, .bool false]) w := by kernel_rfl
theorem ta_84_79 (v : Value) (w : World) : (Instr.typeAssert (.iface 47 v) 66 60 true).run Try.prog w = .ok (.tuple #[.pointer none, .bool false]) w := by kernel_rfl
theorem ta_84_84 (v : Value) (w : World) : (Instr.typeAssert (.iface 47 v) 66 47 true).run Try.prog w = .ok (.tuple #[v, .bool true]) w := by kernel_rfl
set_option maxRecDepth 100000 in
set_option maxHeartbeats 1000000 in
theorem findT {w : World} {p : Nat} (n k cap g : Nat) (ti : TypeId) (bv : Value) (hn : n ≤ 1000000) (hk : k < n) (c3 : w.cell? ⟨p, 3, none⟩ = some (.slice (some ⟨g, 0, none⟩) n cap)) (hcell : w.cell? ⟨g, k, none⟩ = some (.iface ti bv)) : Calls Try.prog 25 #[ptr p, .int .u64 ((k : Int) + 1)] w fun e w' => e = .returned (.iface ti bv) ∧ w = w' := by
  have q1 : ¬ ((k : Int) + 1 = 0) := by omega
  have q2 : ¬ ((n : Int) < (k : Int) + 1) := by omega
  go_enter Try.func25, Try.ntmps25
  go_wp2_with fail
  go_ret
  exact ⟨rfl, rfl⟩
set_option maxRecDepth 100000 in
set_option maxHeartbeats 1000000 in
theorem findS {w : World} {p : Nat} {m : M} {vt : Value} {bs : Nat → Nat} {vs : Nat → Value} (H : HOwn w p m vt bs vs) (hn : m.ths.length ≤ 1000000) (ref : Int) (h0 : 0 ≤ ref) (h1 : ref < 18446744073709551616) :
    Calls Try.prog 25 #[ptr p, .int .u64 ref] w fun e w' => e = .returned (thV (m.at ref).kind (bs (m.idx ref))) ∧ w = w' := by
  have ho := H.own
  by_cases hin : 1 ≤ ref ∧ ref ≤ m.ths.length
  · obtain ⟨k, hk, hr, ht⟩ := at_some hin.1 hin.2
    have hkd := (at_kind H.inv hin.1 hin.2).1
    have hidx : m.idx ref = k := by unfold M.idx; omega
    rw [hidx]
    have e1 : thV (m.at ref).kind (bs k) = refV (m.at ref).kind (bs k) := by unfold thV; rw [if_neg (by omega)]
    rw [e1]
    have hrow := H.row
    obtain ⟨g, cap, cur, rfl, hg, k1, k2, k3, k4⟩ := hrow.block (by omega)
    have hcell := hrow.cells k _ (things_get bs m.ths k _ ht)
    obtain ⟨c0, c1, c2, c3, hf⟩ := own4 ho
    subst hr
    exact findT m.ths.length k cap g _ _ hn hk c3 hcell
  · rw [at_none (by omega)]
    obtain ⟨ao, cap, rfl, -⟩ := H.row.shape
    obtain ⟨c0, c1, c2, c3, hf⟩ := own4 ho
    obtain ⟨n, hnn⟩ : ∃ n, Hid (m.ths.length = n) := ⟨_, rfl⟩
    rw [hnn.out] at c3 hn hin
    clear H ho hnn
    by_cases hz : ref = 0
    · subst hz
      go_enter Try.func25, Try.ntmps25
      go_wp2
      go_ret
      exact ⟨rfl, rfl⟩
    · have hgt : (n : Int) < ref := by omega
      have hz2 : (ref == 0) = false := by simpa using hz
      clear hin
      go_enter Try.func25, Try.ntmps25
      go_wp2
      go_ret
      exact ⟨rfl, rfl⟩
set_option maxRecDepth 100000 in
set_option maxHeartbeats 1000000 in
theorem rowOfS (w : World) (k b : Nat) (hk : k ≤ 4) : Calls Try.prog 24 #[thV k b] w fun e w' => e = .returned (.tuple #[rowV k b, .bool (decide (k = 4))]) ∧ w = w' := by
  rcases (show k = 0 ∨ k = 1 ∨ k = 2 ∨ k = 3 ∨ k = 4 by omega) with rfl | rfl | rfl | rfl | rfl
  all_goals
    simp only [thV, refV, kP, rowV]
    have z_ta_nil_69 := ta_nil_69
    have z_ta_nil_79 := ta_nil_79
    have z_ta_69_69 := ta_69_69
    have z_ta_69_79 := ta_69_79
    have z_ta_79_69 := ta_79_69
    have z_ta_79_79 := ta_79_79
    have z_ta_84_69 := ta_84_69
    have z_ta_84_79 := ta_84_79
    go_enter Try.func24, Try.ntmps24
    go_wp2
    go_ret2
    exact ⟨rfl, rfl⟩
set_option maxRecDepth 100000 in
set_option maxHeartbeats 1000000 in
theorem textOfS (w : World) (k b : Nat) (hk : k ≤ 4) (v : Value) (s : ByteArray) (hs : k = 1 → Own w b #[v, .string s] 72) : Calls Try.prog 27 #[thV k b] w fun e w' => e = .returned (.tuple #[.string (if k = 1 then s else empt), .bool (decide (k = 1))]) ∧ w = w' := by
  rcases (show k = 0 ∨ k = 1 ∨ k = 2 ∨ k = 3 ∨ k = 4 by omega) with rfl | rfl | rfl | rfl | rfl
  case' inr.inl => obtain ⟨c0, c1, hf⟩ := own2 (hs rfl)
  all_goals
    clear hs
    simp only [thV, refV, kP, empt]
    have z_ta_nil_84 := ta_nil_84
    have z_ta_69_84 := ta_69_84
    have z_ta_79_84 := ta_79_84
    have z_ta_84_84 := ta_84_84
    go_enter Try.func27, Try.ntmps27
    go_wp2
    go_ret2
    exact ⟨rfl, rfl⟩
set_option maxHeartbeats 1000000 in
theorem newS (w : World) (l : Int) (h1 : -9223372036854775808 ≤ l) (h2 : l < 9223372036854775808) : Calls Try.prog 4 #[.int .i64 l] w fun e w' => e = .returned (ptr w.heap.size) ∧ ∃ F, HAt w' w.heap.size (M.new l) F ∧ (∀ b, F b → w.heap.size ≤ b) ∧ Below w.heap.size w w' := by
  have HR : Hid (∀ w', w' = w.alloc (.cells #[.bool true, .int .i64 ((M.new l).limit : Int), .int .i64 0, .slice none 0 0] 45) → ∃ F, HAt w' w.heap.size (M.new l) F ∧ (∀ b, F b → w.heap.size ≤ b) ∧ Below w.heap.size w w') := by
    rintro w' rfl
    refine ⟨fun b => b = w.heap.size, ⟨.slice none 0 0, fun _ => 0, fun _ => .slice none 0 0, ⟨Own.new w _ 45, World.ownsRow_nil _ 0 66 1, fun i t h => by simp [M.new] at h, fun i j h => by simp [M.new] at h, fun i j g h => by simp [M.new] at h, Inv.new l⟩, ?_, fun b hb => by rw [hb]; simp⟩, fun b hb => by rw [hb]; exact Nat.le_refl _, (Below.refl _ w).alloc (Nat.le_refl _) _⟩
    rintro b (rfl | hb | ⟨i, hi, -⟩ | ⟨i, hi, -⟩)
    · rfl
    · simp [Value.ownBlock] at hb
    · simp [M.new] at hi
    · simp [M.new] at hi
  have e : (((M.new l).limit : Nat) : Int) = min (max l 0) 1048576 := by simp only [M.new]; omega
  rw [e] at HR
  by_cases q1 : l < 0
  · have e2 : min (max l 0) 1048576 = 0 := by omega
    rw [e2] at HR
    clear e e2
    go_enter Try.func4, Try.ntmps4
    go_wp2
    go_ret
    exact ⟨rfl, HR.out _ rfl⟩
  · by_cases q2 : l ≤ 1048576
    · have e2 : min (max l 0) 1048576 = l := by omega
      rw [e2] at HR
      clear e e2
      go_enter Try.func4, Try.ntmps4
      go_wp2
      go_ret
      exact ⟨rfl, HR.out _ rfl⟩
    · have e2 : min (max l 0) 1048576 = 1048576 := by omega
      rw [e2] at HR
      clear e e2
      go_enter Try.func4, Try.ntmps4
      go_wp2
      go_ret
      exact ⟨rfl, HR.out _ rfl⟩
theorem usedS {w : World} {p : Nat} {m : M} {F : Nat → Prop} (h : HAt w p m F) : Calls Try.prog 6 #[ptr p] w fun e w' => e = .returned (.int .i64 (m.used : Int)) ∧ w = w' := by
  obtain ⟨vt, bs, vs, H, -, -⟩ := h
  obtain ⟨c0, c1, c2, c3, hf⟩ := own4 H.own
  go_enter Try.func6, Try.ntmps6
  go_wp2
  go_ret
  exact ⟨rfl, rfl⟩
end Go.Proofs.Ytchamkiffkngjaa
