/-
  CONTRACTS of the landed heap's calls that make things: Const, Text, Record, Empty.
-/
import Derived.Test.YtchamkiffkngjaaKeep
import Derived.Test.YtchamkiffkngjaaShelf
namespace Go.Proofs.Ytchamkiffkngjaa
open Go.RowKit
set_option linter.unusedVariables false

/-- Words lie where a slice leads. -/
structure WordsAt (w : World) (ao : Option Addr) (cap : Nat) (xs : List Int) : Prop where
  bits : ∀ x ∈ xs, 0 ≤ x ∧ x < 18446744073709551616
  nil : ao = none → xs = [] ∧ cap = 0
  cell : xs = [] ∨ ∃ b o, ao = some ⟨b, o, none⟩ ∧ b < w.heap.size ∧ ∀ i, i < xs.length → w.cell? ⟨b, o + i, none⟩ = some (.int .u64 (xs.getD i 0))
  capl : xs.length ≤ cap
  capm : cap ≤ maxLen
theorem WordsAt.same {w w' : World} {ao : Option Addr} {cap : Nat} {xs : List Int} (h : WordsAt w ao cap xs) (hs : w.heap.size ≤ w'.heap.size) (hb : xs ≠ [] → ∀ b o, ao = some ⟨b, o, .none⟩ → b < w.heap.size → w'.heap[b]? = w.heap[b]?) : WordsAt w' ao cap xs := by
  refine ⟨h.bits, h.nil, ?_, h.capl, h.capm⟩
  rcases h.cell with q | ⟨b, o, e, hl, hc⟩
  · exact .inl q
  · refine .inr ⟨b, o, e, by omega, fun i hi => ?_⟩
    rw [World.cell?_of_block (a := ⟨b, o + i, .none⟩) (hb (by rintro rfl; simp at hi) b o e hl)]
    exact hc i hi
theorem WordsAt.below {w w' : World} {ao : Option Addr} {cap : Nat} {xs : List Int} (h : WordsAt w ao cap xs) (hb : Below w.heap.size w w') : WordsAt w' ao cap xs := h.same hb.size fun _ b o _ hl => hb.block b hl
theorem WordsAt.get {w : World} {b o cap : Nat} {xs : List Int} (h : WordsAt w (some ⟨b, o, .none⟩) cap xs) {i : Nat} (hi : i < xs.length) : w.cell? ⟨b, o + i, .none⟩ = some (.int .u64 (xs.getD i 0)) := by
  rcases h.cell with q | ⟨b', o', e, hl, hc⟩
  · rw [q] at hi; simp at hi
  · cases e; exact hc i hi
theorem wordV_get (xs : List Int) (i : Nat) (u : Value) (h : (wordV xs)[i]? = some u) : i < xs.length ∧ u = .int .u64 (xs.getD i 0) := by
  unfold wordV at h
  rw [List.getElem?_map] at h
  cases hx : xs[i]? with
  | none => rw [hx] at h; cases h
  | some x =>
    rw [hx] at h; cases h
    obtain ⟨hl, he⟩ := List.getElem?_eq_some_iff.1 hx
    exact ⟨hl, by rw [List.getD_eq_getElem?_getD, hx]; rfl⟩
theorem wordV_one (xs : List Int) : ∀ u ∈ wordV xs, u.oneCell' = true := by
  intro u hu
  obtain ⟨x, _, rfl⟩ := List.mem_map.1 hu
  rfl
set_option maxHeartbeats 1000000 in
theorem cloneU (w : World) (ao : Option Addr) (cap : Nat) (xs : List Int) (hx : WordsAt w ao cap xs) (hn : xs.length ≤ 10000000) :
    Calls Try.prog 22 #[.slice ao xs.length cap] w fun e w' => ∃ ao' cap', e = .returned (.slice ao' xs.length cap') ∧ Rw w' 24 1 (.slice ao' xs.length cap') xs.length (wordV xs) ∧ (∀ b, (Value.slice ao' xs.length cap').ownBlock = some b → w.heap.size ≤ b) ∧ Below w.heap.size w w' := by
  cases ao with
  | none =>
    obtain ⟨rfl, rfl⟩ := hx.nil rfl
    have hnil : ∀ W, (binOp .eql 30 (.slice none 0 0) (.slice none 0 0)).run Try.prog W = .ok (.bool true) W := fun W => Go.Lib.run_eql_slice_nil W 30 24 none 0 0 0 0 Try.underlying30
    go_enter Try.func22, Try.ntmps22
    go_wp2
    go_ret
    exact ⟨none, 0, rfl, World.ownsRow_nil _ 0 24 1, fun b hb => by simp [Value.ownBlock] at hb, Below.refl _ _⟩
  | some ad =>
    obtain ⟨n, hnn⟩ : ∃ n, Hid (xs.length = n) := ⟨_, rfl⟩
    have hnil : ∀ W, (binOp .eql 30 (.slice (some ad) n cap) (.slice none 0 0)).run Try.prog W = .ok (.bool false) W := fun W => Go.Lib.run_eql_slice_nil W 30 24 (some ad) n cap 0 0 Try.underlying30
    have hmade : Rw (w.alloc (.cells #[] 24)) 24 1 (.slice (some ⟨w.heap.size, 0, none⟩) 0 0) 0 [] := World.ownsRow_made w #[] 0 (Nat.zero_le _) (Nat.zero_le _) rfl
    have hl : (wordV xs).length = n * 1 := by rw [wordV_length, hnn.out, Nat.mul_one]
    have hx2 := hx.below ((Below.refl _ w).alloc (Nat.le_refl _) (.cells #[] 24))
    have hr : ∀ j u, (wordV xs)[j]? = some u → (w.alloc (.cells #[] 24)).cell? (ad.add j) = some u := by
      intro j u hu
      obtain ⟨hj, rfl⟩ := wordV_get xs j u hu
      rcases hx2.cell with q | ⟨b, o, e, _, hc⟩
      · rw [q] at hj; simp at hj
      · cases e
        have hadd : (⟨b, o, none⟩ : Addr).add j = ⟨b, o + j, none⟩ := by unfold Addr.add; split <;> simp_all
        rw [hadd]; exact hc j hj
    have h1 := wordV_one xs
    rw [hnn.out] at hn
    have hn0 : 0 + n ≤ 100000000000 := by omega
    obtain ⟨vs, hvs⟩ : ∃ vs, Hid (wordV xs = vs) := ⟨_, rfl⟩
    rw [hvs.out] at hl hr h1
    rw [hnn.out]
    have HH : Hid ((∀ j u, vs[j]? = some u → (w.alloc (.cells #[] 24)).cell? (ad.add j) = some u) ∧ (∀ u ∈ vs, u.oneCell' = true)) := ⟨hr, h1⟩
    clear hr h1 hx hx2
    go_enter Try.func22, Try.ntmps22
    go_wp2_with (refine wpList_appA okU (by rfl) (.tmp 5) (.tmp 6) (by rfl) _ 0 [] (by rfl) hmade ad n cap vs (by rfl) hl HH.out.1 HH.out.2 hn0 ?_; intro v' w2 k1 k2 k3; have K : Hid _ := And.intro k1 (And.intro k2 k3); clear k1 k2 k3; obtain ⟨ao', cap', hsh, -⟩ := K.out.1.shape; subst hsh)
    go_ret
    obtain ⟨k1, k2, k3⟩ := K.out
    rw [Nat.zero_add, List.nil_append] at k1
    rw [Nat.zero_add] at k3
    refine ⟨ao', cap', rfl, by rw [hvs.out]; exact k1, fun b hb => ?_, Fr.below (((Fr.refl _ w).alloc _).grown k2 fun k hk e => by simp [Value.ownBlock] at e; omega)⟩
    rcases k3 with q | q
    · rw [q] at hb
      simp [Value.ownBlock] at hb
      omega
    · rw [q] at hb
      have := Option.some.inj hb
      rw [World.size_alloc] at this
      omega
theorem strCloneS (w : World) (s : ByteArray) (hs : s.size ≤ 281474976710656) : Calls Try.prog 28 #[.string s] w fun e w' => e = .returned (.string s) ∧ Below w.heap.size w w' := by
  have hc : Calls Try.prog 30 #[.string s] w fun e w' => e = .returned (.string s) ∧ Below w.heap.size w w' := Any.stringslite_Clone Try.laysM316 s w hs
  go_enter Try.func28, Try.ntmps28
  go_wp2_with (go_at_call 30; refine hc.mono ?_; rintro e w1 ⟨rfl, hB⟩)
  go_ret
  exact ⟨rfl, hB⟩
theorem newTextS (w : World) (s : ByteArray) (hs : s.size ≤ 281474976710656) : Calls Try.prog 20 #[.string s] w fun e w' => ∃ b, e = .returned (ptr b) ∧ ThIn w' b (.slice none 0 0) (tText s) ∧ w.heap.size ≤ b ∧ Below w.heap.size w w' := by
  have hc := strCloneS w s hs
  go_enter Try.func20, Try.ntmps20
  go_wp2_with (go_at_call 28; refine hc.mono ?_; rintro e w1 ⟨rfl, hB⟩; have HB : Hid _ := hB; clear hB)
  go_ret
  exact ⟨w1.heap.size, rfl, ⟨Own.new w1 #[.int .i64 5, .string s] 72, World.ownsRow_nil _ 0 24 1⟩, HB.out.size, HB.out.trans (((Below.refl _ w1).alloc (Nat.le_refl _) _).mono HB.out.size)⟩
end Go.Proofs.Ytchamkiffkngjaa
