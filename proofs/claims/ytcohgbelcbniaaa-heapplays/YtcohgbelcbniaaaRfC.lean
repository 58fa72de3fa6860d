/-
  CONTRACTS of the document's own heap: Len, Type, Bytes, own, make.
-/
import Derived.Test.YtcohgbelcbniaaaRfB
namespace Go.Proofs.Ytcohgbelcbniaaa
open Go.RowKit
set_option linter.unusedVariables false

theorem th_cases {m : M} (hi : Inv m) (ref : Int) : (m.at ref).kind = 0 → m.at ref = dT := by
  intro h
  by_cases q : ref < 1 ∨ (m.ths.length : Int) < ref
  · exact at_none q
  · have := (at_kind hi (ref := ref) (by omega) (by omega)).1; omega
set_option maxRecDepth 100000 in
set_option maxHeartbeats 1000000 in
theorem lenR {w : World} {q : Nat} {m : M} {F : Nat → Prop} (h : RAt w q m F) (hi : Inv m) (hn : m.ths.length ≤ 1000000) (ref : Int) (h0 : 0 ≤ ref) (h1 : ref < 18446744073709551616) :
    Calls Try.prog 41 #[ptr q, .int .u64 ref] w fun e w' => e = .returned (.tuple #[.int .i64 ((m.at ref).len : Int), .bool (decide ((m.at ref).kind ≠ 0))]) ∧ Below w.heap.size w w' := by
  obtain ⟨vt, vs, H, -, -⟩ := h
  obtain ⟨ao, cap, -, v1, v2, hc⟩ := atR H hi hn ref h0 h1
  have hkl := kind_le hi ref
  have htx : (m.at ref).text.size ≤ maxLen := by
    by_cases hk : (m.at ref).kind = 0
    · rw [th_cases hi ref hk]; exact Nat.zero_le _
    · exact hi.text _ (H.ref hk).2.2.2.2
  have hl : (m.at ref).len = if (m.at ref).kind = 1 then (m.at ref).text.size else (m.at ref).words.length := rfl
  rw [hl]
  generalize (m.at ref).kind = kd at *
  generalize (m.at ref).typ = ty at *
  generalize (m.at ref).text = tx at *
  generalize (m.at ref).words.length = wl at *
  unfold maxLen at v2 htx
  have HB : Hid (∀ w1 o q, Below w.heap.size w w1 → Below w.heap.size w ((w1.alloc o).drewN q)) := fun w1 o q h => (h.trans (((Below.refl _ w1).alloc (Nat.le_refl _) o).mono h.size)).trans ((below_drewN _ q).mono (by rw [World.size_alloc]; have := h.size; omega))
  have HB0 : Hid (∀ w1 o, Below w.heap.size w w1 → Below w.heap.size w (w1.alloc o)) := fun w1 o h => h.trans (((Below.refl _ w1).alloc (Nat.le_refl _) o).mono h.size)
  clear H hi hl
  by_cases k1 : kd = 1
  · subst k1
    simp only [if_true]
    go_enter Try.func41, Try.ntmps41
    go_wp2_with (go_at_call 54; refine hc.mono ?_; rintro e w1 ⟨rfl, hB⟩)
    go_ret2
    exact ⟨rfl, HB0.out _ _ hB⟩
  rw [if_neg k1]
  have k1i : ¬ (kd : Int) = 1 := by omega
  have k1b : ((kd : Int) == 1) = false := by simp; omega
  have k0b : ((kd : Int) != 0) = decide (kd ≠ 0) := by
    by_cases hz : kd = 0
    · subst hz; rfl
    · have : ((kd : Int) != 0) = true := by simp; omega
      rw [this]; simpa using hz
  rw [← k0b]
  clear k0b
  go_enter Try.func41, Try.ntmps41
  go_wp2_with (go_at_call 54; refine hc.mono ?_; rintro e w1 ⟨rfl, hB⟩; obtain ⟨c0, c1, c2, c3, cf⟩ := own4 (Own.new w1 #[.int .i64 (kd : Int), .int .i64 ty, .string tx, .slice ao wl cap] 88))
  go_quiet (fail)
  go_wp2_with fail
  go_ret2
  exact ⟨rfl, HB.out _ _ _ hB⟩
set_option maxRecDepth 100000 in
set_option maxHeartbeats 1000000 in
theorem bytesR {w : World} {q : Nat} {m : M} {F : Nat → Prop} (h : RAt w q m F) (hi : Inv m) (hn : m.ths.length ≤ 1000000) (ref : Int) (h0 : 0 ≤ ref) (h1 : ref < 18446744073709551616) :
    Calls Try.prog 40 #[ptr q, .int .u64 ref] w fun e w' => e = .returned (.tuple #[.string (m.at ref).text, .bool (decide ((m.at ref).kind = 1))]) ∧ Below w.heap.size w w' := by
  obtain ⟨vt, vs, H, -, -⟩ := h
  obtain ⟨ao, cap, -, v1, v2, hc⟩ := atR H hi hn ref h0 h1
  have hkl := kind_le hi ref
  generalize (m.at ref).kind = kd at *
  generalize (m.at ref).typ = ty at *
  generalize (m.at ref).text = tx at *
  generalize (m.at ref).words.length = wl at *
  unfold maxLen at v2
  have HB : Hid (∀ w1 o q, Below w.heap.size w w1 → Below w.heap.size w ((w1.alloc o).drewN q)) := fun w1 o q h => (h.trans (((Below.refl _ w1).alloc (Nat.le_refl _) o).mono h.size)).trans ((below_drewN _ q).mono (by rw [World.size_alloc]; have := h.size; omega))
  clear H hi
  have k1b : ((kd : Int) == 1) = decide (kd = 1) := by
    by_cases hz : kd = 1
    · subst hz; rfl
    · have : ((kd : Int) == 1) = false := by simp; omega
      rw [this]; simpa using hz
  rw [← k1b]
  clear k1b
  go_enter Try.func40, Try.ntmps40
  go_wp2_with (go_at_call 54; refine hc.mono ?_; rintro e w1 ⟨rfl, hB⟩; obtain ⟨c0, c1, c2, c3, cf⟩ := own4 (Own.new w1 #[.int .i64 (kd : Int), .int .i64 ty, .string tx, .slice ao wl cap] 88))
  go_quiet (fail)
  go_wp2_with fail
  go_ret2
  exact ⟨rfl, HB.out _ _ _ hB⟩
theorem fld88 (a b c d : Value) (w : World) (hb : ∃ t, b = .int .i64 t) : (Instr.field 88 (.agg #[a, b, c, d]) 1).run Try.prog w = .ok b w := by
  obtain ⟨t, rfl⟩ := hb
  kernel_rfl
set_option maxRecDepth 100000 in
theorem typeR {w : World} {q : Nat} {m : M} {F : Nat → Prop} (h : RAt w q m F) (hi : Inv m) (hn : m.ths.length ≤ 1000000) (ref : Int) (h0 : 0 ≤ ref) (h1 : ref < 18446744073709551616) :
    Calls Try.prog 42 #[ptr q, .int .u64 ref] w fun e w' => e = .returned (.int .i64 (m.at ref).typ) ∧ Below w.heap.size w w' := by
  obtain ⟨vt, vs, H, -, -⟩ := h
  obtain ⟨ao, cap, -, v1, v2, hc⟩ := atR H hi hn ref h0 h1
  generalize (m.at ref).kind = kd at *
  generalize (m.at ref).typ = ty at *
  generalize (m.at ref).text = tx at *
  generalize (m.at ref).words.length = wl at *
  have hfl : ∀ w1 : World, (Instr.field 88 (.agg #[.int .i64 (kd : Int), .int .i64 ty, .string tx, .slice ao wl cap]) 1).run Try.prog w1 = .ok (.int .i64 ty) w1 := fun w1 => fld88 _ _ _ _ w1 ⟨ty, rfl⟩
  clear H hi
  go_enter Try.func42, Try.ntmps42
  go_wp2_with (go_at_call 54; refine hc.mono ?_; rintro e w1 ⟨rfl, hB⟩)
  go_ret
  exact ⟨rfl, hB⟩
set_option maxHeartbeats 1000000 in
theorem ownR (w : World) (ao : Option Addr) (cap : Nat) (xs : List Int) (hx : WordsAt w ao cap xs) (hn : xs.length ≤ 10000000) :
    Calls Try.prog 51 #[.slice ao xs.length cap] w fun e w' => ∃ ao' cap', e = .returned (.slice ao' xs.length cap') ∧ Rw w' 24 1 (.slice ao' xs.length cap') xs.length (wordV xs) ∧ (∀ b, (Value.slice ao' xs.length cap').ownBlock = some b → w.heap.size ≤ b) ∧ Below w.heap.size w w' := by
  have hnil0 : Rw w 24 1 (.slice none 0 0) 0 [] := World.ownsRow_nil _ 0 24 1
  cases ao with
  | none =>
    obtain ⟨rfl, rfl⟩ := hx.nil rfl
    have hr0 : (Builtin.append_ #[23, 23] 23 #[.slice none 0 0, .slice none 0 0]).run Try.prog w = .ok (.slice none 0 0) w := by kernel_rfl
    go_enter Try.func51, Try.ntmps51
    go_wp2
    go_ret
    exact ⟨none, 0, rfl, World.ownsRow_nil _ 0 24 1, fun b hb => by simp [Value.ownBlock] at hb, Below.refl _ _⟩
  | some ad =>
    obtain ⟨n, hnn⟩ : ∃ n, Hid (xs.length = n) := ⟨_, rfl⟩
    have hl : (wordV xs).length = n * 1 := by rw [wordV_length, hnn.out, Nat.mul_one]
    have hr : ∀ j u, (wordV xs)[j]? = some u → w.cell? (ad.add j) = some u := by
      intro j u hu
      obtain ⟨hj, rfl⟩ := wordV_get xs j u hu
      rcases hx.cell with q | ⟨b, o, e, _, hc⟩
      · rw [q] at hj; simp at hj
      · cases e
        have hadd : (⟨b, o, none⟩ : Addr).add j = ⟨b, o + j, none⟩ := by unfold Addr.add; split <;> simp_all
        rw [hadd]; exact hc j hj
    have h1 := wordV_one xs
    rw [hnn.out] at hn
    have hn0 : 0 + n ≤ 100000000000 := by omega
    obtain ⟨vs, hvs⟩ : ∃ vs, Hid (wordV xs = vs) := ⟨_, rfl⟩
    rw [hvs.out] at hl hr h1
    rw [hnn.out]
    have HH : Hid ((∀ j u, vs[j]? = some u → w.cell? (ad.add j) = some u) ∧ (∀ u ∈ vs, u.oneCell' = true)) := ⟨hr, h1⟩
    clear hr h1 hx
    go_enter Try.func51, Try.ntmps51
    go_wp2_with (refine wpList_appA okU (by rfl) (.tmp 4) (.tmp 5) (by rfl) _ 0 [] (by rfl) hnil0 ad n cap vs (by rfl) hl HH.out.1 HH.out.2 hn0 ?_; intro v' w2 k1 k2 k3; have K : Hid _ := And.intro k1 (And.intro k2 k3); clear k1 k2 k3; obtain ⟨ao', cap', hsh, -⟩ := K.out.1.shape; subst hsh)
    go_ret
    obtain ⟨k1, k2, k3⟩ := K.out
    rw [Nat.zero_add, List.nil_append] at k1
    rw [Nat.zero_add] at k3
    refine ⟨ao', cap', rfl, by rw [hvs.out]; exact k1, fun b hb => ?_, Fr.below ((Fr.refl _ w).grown k2 fun k hk e => by simp [Value.ownBlock] at e)⟩
    rcases k3 with q | q
    · rw [q] at hb
      simp [Value.ownBlock] at hb
    · rw [q] at hb
      have := Option.some.inj hb
      omega
end Go.Proofs.Ytcohgbelcbniaaa
