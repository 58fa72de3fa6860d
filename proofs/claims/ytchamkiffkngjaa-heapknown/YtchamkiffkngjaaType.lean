/-
  CONTRACTS of the landed heap's Type and Bytes; the laws' own works.
-/
import Derived.Test.YtchamkiffkngjaaDrop
namespace Go.Proofs.Ytchamkiffkngjaa
open Go.RowKit
set_option linter.unusedVariables false

theorem ld71 (B : Nat) (w : World) (t : Int) (hc : w.cell? ⟨B, 0, none⟩ = some (.int .i64 t)) : (loadVar 52 ⟨B, 0, none⟩).run Try.prog w = .ok (.agg #[.int .i64 t]) w := by simp [go_sem, hc]
theorem meth84 (B : Nat) (w : World) (t : Int) (hc : w.cell? ⟨B, 0, none⟩ = some (.int .i64 t)) : (method 198 47 (.pointer (some ⟨B, 0, none⟩)) "trammel/heap.typeOf").run Try.prog w = .ok (49, .agg #[.int .i64 t]) w := by
  have e : (method 198 47 (.pointer (some ⟨B, 0, none⟩)) "trammel/heap.typeOf").run Try.prog w = ((loadVar 52 ⟨B, 0, none⟩) >>= fun v => pure (49, v)).run Try.prog w := by kernel_rfl
  rw [e]; simp [ld71 B w t hc]
theorem meth69 (B : Nat) (w : World) (t : Int) (hc : w.cell? ⟨B, 0, none⟩ = some (.int .i64 t)) : (method 198 50 (.pointer (some ⟨B, 0, none⟩)) "trammel/heap.typeOf").run Try.prog w = .ok (49, .agg #[.int .i64 t]) w := by
  have e : (method 198 50 (.pointer (some ⟨B, 0, none⟩)) "trammel/heap.typeOf").run Try.prog w = ((loadVar 52 ⟨B, 0, none⟩) >>= fun v => pure (49, v)).run Try.prog w := by kernel_rfl
  rw [e]; simp [ld71 B w t hc]
theorem meth79 (B : Nat) (w : World) (t : Int) (hc : w.cell? ⟨B, 0, none⟩ = some (.int .i64 t)) : (method 198 60 (.pointer (some ⟨B, 0, none⟩)) "trammel/heap.typeOf").run Try.prog w = .ok (49, .agg #[.int .i64 t]) w := by
  have e : (method 198 60 (.pointer (some ⟨B, 0, none⟩)) "trammel/heap.typeOf").run Try.prog w = ((loadVar 52 ⟨B, 0, none⟩) >>= fun v => pure (49, v)).run Try.prog w := by kernel_rfl
  rw [e]; simp [ld71 B w t hc]
set_option maxRecDepth 100000 in
set_option maxHeartbeats 1000000 in
theorem typeS {w : World} {p : Nat} {m : M} {F : Nat → Prop} (h : HAt w p m F) (hn : m.ths.length ≤ 1000000) (ref : Int) (h0 : 0 ≤ ref) (h1 : ref < 18446744073709551616) :
    Calls Try.prog 16 #[ptr p, .int .u64 ref] w fun e w' => e = .returned (.int .i64 (m.at ref).typ) ∧ Below w.heap.size w w' := by
  obtain ⟨vt, bs, vs, H, -, -⟩ := h
  have hf := findS H hn ref h0 h1
  by_cases hk0 : (m.at ref).kind = 0
  · rw [(len_at m ref H.inv hk0).2]
    rw [hk0] at hf
    simp only [thV] at hf
    clear H
    go_enter Try.func16, Try.ntmps16
    go_wp2_with (first | (go_at_call 25; refine hf.mono ?_; rintro e w1 ⟨rfl, rfl⟩))
    go_ret
    exact ⟨rfl, Below.refl _ _⟩
  obtain ⟨a1, a2, a3, ht, hm⟩ := H.ref hk0
  obtain ⟨c, hc⟩ : ∃ c, Own w (bs (m.idx ref)) #[.int .i64 (m.at ref).typ, c] (kB (m.at ref).kind) := by
    have := ht.own
    unfold ThCells at this
    split at this
    · exact ⟨_, this⟩
    · exact ⟨_, this⟩
  obtain ⟨c0, c1, cf⟩ := own2 hc
  have hk4 : kP (m.at ref).kind = 47 ∨ kP (m.at ref).kind = 50 ∨ kP (m.at ref).kind = 60 := by
    unfold kP
    split
    · exact .inl rfl
    · split
      · exact .inr (.inr rfl)
      · exact .inr (.inl rfl)
  unfold thV refV at hf
  rw [if_neg hk0] at hf
  generalize kP (m.at ref).kind = T at *
  generalize bs (m.idx ref) = B at *
  generalize (m.at ref).typ = ty at *
  clear H ht hm a1 a2 a3 hk0 hc
  have m84 := meth84 B w ty c0
  have m69 := meth69 B w ty c0
  have m79 := meth79 B w ty c0
  rcases hk4 with rfl | rfl | rfl
  all_goals
    go_enter Try.func16, Try.ntmps16
    go_wp2_with (first | (go_at_call 25; refine hf.mono ?_; rintro e w1 ⟨rfl, rfl⟩) | go_in)
    go_ret
    exact ⟨rfl, (Below.refl _ _).alloc (Nat.le_refl _) _⟩
def Th.str (t : Th) : ByteArray := if t.kind = 1 then t.text else empt
set_option maxHeartbeats 1000000 in
theorem bytesS {w : World} {p : Nat} {m : M} {F : Nat → Prop} (h : HAt w p m F) (hn : m.ths.length ≤ 1000000) (ref : Int) (h0 : 0 ≤ ref) (h1 : ref < 18446744073709551616) :
    Calls Try.prog 15 #[ptr p, .int .u64 ref] w fun e w' => e = .returned (.tuple #[.string (m.at ref).str, .bool (decide ((m.at ref).kind = 1))]) ∧ w = w' := by
  obtain ⟨vt, bs, vs, H, -, -⟩ := h
  have hf := findS H hn ref h0 h1
  have hr := textOfS w (m.at ref).kind (bs (m.idx ref)) (kind_le H.inv ref) (.int .i64 (m.at ref).typ) (m.at ref).text (fun e => by
    obtain ⟨-, -, -, ht, -⟩ := H.ref (ref := ref) (by omega)
    exact ht.txt e)
  unfold Th.str
  generalize (if (m.at ref).kind = 1 then (m.at ref).text else empt) = s at *
  generalize decide ((m.at ref).kind = 1) = d at *
  generalize (m.at ref).kind = K at *
  generalize bs (m.idx ref) = B at *
  clear H
  go_enter Try.func15, Try.ntmps15
  go_wp2_with (first | (go_at_call 25; refine hf.mono ?_; rintro e w1 ⟨rfl, rfl⟩) | (go_at_call 27; refine hr.mono ?_; rintro e w1 ⟨rfl, rfl⟩))
  go_ret2
  exact ⟨rfl, rfl⟩
def nine : ByteArray := ⟨#[97, 98, 99, 100, 101, 102, 103, 104, 105]⟩
theorem words_new (w : World) (xs : List Int) (h : ∀ x ∈ xs, 0 ≤ x ∧ x < 18446744073709551616) (hl : xs.length ≤ 1000) : WordsAt (w.alloc (.cells (wordV xs).toArray 24)) (some ⟨w.heap.size, 0, none⟩) xs.length xs := by
  refine ⟨h, (fun e => by cases e), ?_, Nat.le_refl _, by unfold maxLen; omega⟩
  refine .inr ⟨w.heap.size, 0, rfl, by simp, fun i hi => ?_⟩
  rw [(Own.new w (wordV xs).toArray 24).cell, Nat.zero_add]
  simpa using wordV_at xs i hi
set_option maxRecDepth 100000 in
set_option maxHeartbeats 1000000 in
theorem works_as (w : World) : Calls Try.prog 18 #[] w fun e w' => e = .returned (.bool true) ∧ Below w.heap.size w w' := by
  have hN := newS w 5 (by omega) (by omega)
  have HC : Hid (∀ w1, (∃ F, HAt w1 w.heap.size (M.new 5) F ∧ (∀ b, F b → w.heap.size ≤ b) ∧ Below w.heap.size w w1) → Calls Try.prog 8 #[ptr w.heap.size, .int .i64 16, .slice (some ⟨w1.heap.size, 0, none⟩) 2 2] (w1.alloc (.cells #[.int .u64 5, .int .u64 6] 24)) fun e w2 => e = .returned (.tuple #[.int .u64 1, .int .i64 0]) ∧ Calls Try.prog 9 #[ptr w.heap.size, .int .u64 1, .int .i64 1] w2 fun e w3 => e = .returned (.tuple #[.int .u64 6, .int .i64 0]) ∧ Calls Try.prog 7 #[ptr w.heap.size, .string nine] w3 fun e w4 => e = .returned (.tuple #[.int .u64 0, .int .i64 4]) ∧ Calls Try.prog 6 #[ptr w.heap.size] w4 fun e w5 => e = .returned (.int .i64 3) ∧ Below w.heap.size w w5) := by
    rintro w1 ⟨F, a1, a2, a3⟩
    have hb : Below w1.heap.size w1 (w1.alloc (.cells #[.int .u64 5, .int .u64 6] 24)) := (Below.refl _ w1).alloc (Nat.le_refl _) _
    have hr := recordS (a1.below hb) (by simp [M.new]) 16 _ _ [5, 6] (words_new w1 [5, 6] (by simp) (by simp)) (fun _ b o e _ q => by cases e; have := a1.bd _ q; omega) (by simp)
    refine hr.mono ?_
    rintro e w2 ⟨rfl, hR⟩
    obtain ⟨F2, b1, b2, b3⟩ := hR
    refine ⟨rfl, ?_⟩
    refine (getS b1 (by decide) 1 1 (by omega) (by omega) (by omega) (by omega)).mono ?_
    rintro e w3 ⟨rfl, rfl⟩
    refine ⟨rfl, ?_⟩
    refine (textS b1 (by decide) nine (by unfold maxLen; decide)).mono ?_
    rintro e w4 ⟨rfl, hR⟩
    obtain ⟨F4, d1, d2, d3⟩ := hR
    refine ⟨rfl, ?_⟩
    refine (usedS d1).mono ?_
    rintro e w5 ⟨rfl, rfl⟩
    refine ⟨rfl, ?_⟩
    have s1 := a3.size
    have f0 : Fr (fun _ => False) w (w1.alloc (.cells #[.int .u64 5, .int .u64 6] 24)) := (Fr.of a3).alloc _
    have f1 : Fr (fun _ => False) w w2 := f0.then b3 fun i hi q => by have := a2 i q; omega
    refine Fr.below (f1.then d3 fun i hi q => ?_)
    have q1 := b2 i q
    rw [World.size_alloc] at q1
    rcases q1 with q1 | q1
    · have := a2 i q1; omega
    · omega
  go_enter Try.func18, Try.ntmps18
  go_wp2_with (first | (go_at_call 4; refine hN.mono ?_; rintro e w1 ⟨rfl, h1⟩; have hc1 := HC.out w1 h1; clear h1) | (go_at_call 8; refine hc1.mono ?_; rintro e w2 ⟨rfl, hc2⟩; clear hc1) | (go_at_call 9; refine hc2.mono ?_; rintro e w3 ⟨rfl, hc3⟩; clear hc2) | (go_at_call 7; refine hc3.mono ?_; rintro e w4 ⟨rfl, hc4⟩; clear hc3) | (go_at_call 6; refine hc4.mono ?_; rintro e w5 ⟨rfl, hB⟩; clear hc4))
  go_ret
  exact ⟨rfl, hB⟩
end Go.Proofs.Ytchamkiffkngjaa
