/-
  HeapNone, walked.
-/
import Derived.Test.YtcohgbelcbniaaaSil
namespace Go.Proofs.Ytcohgbelcbniaaa
open Go.RowKit
set_option linter.unusedVariables false

set_option maxRecDepth 100000 in
set_option maxHeartbeats 4000000 in
theorem none_walk (w : World) (s : Op) (ho : OpOk w s) : Calls Try.prog 4 #[.agg (opV s).toArray] w fun e w' => e = .returned (.bool true) ∧ Below w.heap.size w w' := by
  have hbox := Own.new w (opV s).toArray 26
  have hb0 : Below w.heap.size w (w.alloc (.cells (opV s).toArray 26)) := (Below.refl _ w).alloc (Nat.le_refl _) _
  have HBX : Hid (∀ W', Below (w.alloc (.cells (opV s).toArray 26)).heap.size (w.alloc (.cells (opV s).toArray 26)) W' → _) := fun W' hB => own8 (hbox.below hB)
  have c := own8 hbox
  have HS : Hid (∀ W hv, Zp W hv → s.text.size ≤ 1048576 → s.words.length ≤ 65536 → Calls Try.prog 16 #[hv, .agg (opV s).toArray] W fun e w' => e = .returned (.bool true) ∧ Below W.heap.size W w') := fun W hv hz h1 h2 => silentS hz ho h1 h2
  have htx := ho.txt
  have hcm := ho.ws.capm
  have hcl := ho.ws.capl
  have hwl := ho.wl
  obtain ⟨kd, tx, nn, mm, ws, ref, i, word, ao, cap⟩ := s
  simp only at *
  obtain ⟨l, hlw⟩ : ∃ l, Hid (ws.length = l) := ⟨_, rfl⟩
  unfold maxLen at hcm
  rw [hlw.out] at HBX c hcl HS hwl
  have hopv : (opV ⟨kd, tx, nn, mm, ws, ref, i, word, ao, cap⟩).toArray = #[.int .i64 kd, .string tx, .int .i64 nn, .int .i64 mm, .slice ao l cap, .int .u64 ref, .int .i64 i, .int .u64 word] := by unfold opV; simp only [hlw.out]
  rw [hopv] at HBX hb0 c HS ⊢
  clear hbox hopv ho hlw
  obtain ⟨w1, hw1⟩ : ∃ w1, Hid (w.alloc (.cells #[.int .i64 kd, .string tx, .int .i64 nn, .int .i64 mm, .slice ao l cap, .int .u64 ref, .int .i64 i, .int .u64 word] 26) = w1) := ⟨_, rfl⟩
  rw [hw1.out] at HBX hb0 c
  obtain ⟨c0, c1, c2, c3, c4, c5, c6, c7⟩ := c
  have hs0 := hb0.size
  have HW : Hid (∀ W, Below w1.heap.size w1 W → Calls Try.prog 9 #[] W fun e w' => e = .returned (.bool true) ∧ Below w.heap.size w w') := fun W hB => by
    have q := hsWorks (hb0.trans (hB.mono hs0))
    exact q
  by_cases q1 : 1048576 < tx.size
  · have hk := HW.out w1 (Below.refl _ _)
    go_enter Try.func4, Try.ntmps4
    go_upto_region 1 with fail
    rw [hw1.out]
    go_wp2_with (go_at_call 9; refine hk.mono ?_; rintro e w2 ⟨rfl, hB⟩)
    go_ret
    exact ⟨rfl, hB⟩
  by_cases q2 : 65536 < l
  · have hk := HW.out w1 (Below.refl _ _)
    go_enter Try.func4, Try.ntmps4
    go_upto_region 1 with fail
    rw [hw1.out]
    go_wp2_with (go_at_call 9; refine hk.mono ?_; rintro e w2 ⟨rfl, hB⟩)
    go_ret
    exact ⟨rfl, hB⟩
  have h1 := HS.out w1 (.pointer none) (.inl rfl) (by omega) (by omega)
  have H2 : Hid (∀ W, Below w1.heap.size w1 W → Calls Try.prog 16 #[ptr W.heap.size, .agg #[.int .i64 kd, .string tx, .int .i64 nn, .int .i64 mm, .slice ao l cap, .int .u64 ref, .int .i64 i, .int .u64 word]] (W.alloc (.cells #[.bool false, .int .i64 0, .int .i64 0, .slice none 0 0] 42)) fun e w' => e = .returned (.bool true) ∧ Below w1.heap.size w1 w') := by
    intro W hB
    refine (HS.out (W.alloc (.cells #[.bool false, .int .i64 0, .int .i64 0, .slice none 0 0] 42)) (ptr W.heap.size) (.inr ⟨_, rfl, Own.new W _ 42⟩) (by omega) (by omega)).mono ?_
    rintro e w' ⟨rfl, hq⟩
    have hA : Below w1.heap.size w1 (W.alloc (.cells #[.bool false, .int .i64 0, .int .i64 0, .slice none 0 0] 42)) := hB.trans (((Below.refl _ W).alloc (Nat.le_refl _) _).mono hB.size)
    exact ⟨rfl, hA.trans (hq.mono hA.size)⟩
  have HBZ : Hid (∀ W, Below w1.heap.size w1 W → Below w1.heap.size w1 (W.alloc (.cells #[.bool false, .int .i64 0, .int .i64 0, .slice none 0 0] 42))) := fun W hB => hB.trans (((Below.refl _ W).alloc (Nat.le_refl _) _).mono hB.size)
  clear HS
  go_enter Try.func4, Try.ntmps4
  go_upto_region 1 with fail
  rw [hw1.out]
  go_wp2_with (first
    | (go_at_call 16; refine h1.mono ?_; clear h1; rintro e w2 ⟨rfl, B⟩; have h2 := H2.out w2 B; clear c0 c1 c2 c3 c4 c5 c6 c7; obtain ⟨c0, c1, c2, c3, c4, c5, c6, c7⟩ := HBX.out _ (HBZ.out w2 B); clear B)
    | (go_at_call 16; refine h2.mono ?_; clear h2; rintro e w3 ⟨rfl, B⟩; have h3 := HW.out w3 B; clear B)
    | (go_at_call 9; refine h3.mono ?_; rintro e w4 ⟨rfl, hB⟩))
  go_ret
  exact ⟨rfl, hB⟩
end Go.Proofs.Ytcohgbelcbniaaa
