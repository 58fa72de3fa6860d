/-
  WHAT IS READ OF A SOURCE MAY BE; what is wrong with one whose tokens are right is a syntax error or too deep a nest, at a place within it.
-/
import Derived.Test.YtkagkofgfjhfgaaGreatDoorValid
import Derived.Test.YtkagkofgfjhfgaaGreatDoorPReadS
namespace Go.Proofs.YtkagkofgfjhfgaaGreatDoor
set_option linter.unusedVariables false

theorem one_nums (l : List Nat) (kd : Nat) (tx : List Nat) (n len : Nat) (h : oneN l = .ok (kd, tx, n, len)) (h2 : kd = 2) : sfxB tx = true ∧ n ≤ topN tx := by
  cases l with
  | nil => simp [oneN] at h
  | cons c r =>
    unfold oneN at h
    simp only at h
    split at h
    · cases h; cases h2
    · split at h
      · split at h
        · rename_i hq; cases h; exact hq
        · cases h
      · split at h
        · cases hr : textN (r.length + 1) r with
          | error x => rw [hr] at h; obtain ⟨p, e⟩ := x; cases p <;> cases h
          | ok x => obtain ⟨o1, n1⟩ := x; rw [hr] at h; cases h; cases h2
        · cases hs : signX (c :: r) with
          | none => rw [hs] at h; cases h
          | some x => rw [hs] at h; cases h; cases h2
theorem toks_ok : ∀ (f k at0 : Nat) (l : List Nat) (ts : List (Nat × List Nat × Nat × Nat × Nat)), toksN f k at0 l = .ok ts → ts.length ≤ f ∧ (l = [] → ts = []) ∧ ∀ t ∈ ts, t.2.2.2.1 ≤ at0 + l.length ∧ (t.1 = 2 → sfxB t.2.1 = true ∧ t.2.2.1 ≤ topN t.2.1) := by
  intro f
  induction f with
  | zero => intro k at0 l ts h; simp [toksN] at h; subst h; exact ⟨by simp, fun _ => rfl, by simp⟩
  | succ f ih =>
    intro k at0 l ts h
    unfold toksN at h
    simp only at h
    split at h
    · cases h; exact ⟨by simp, fun _ => rfl, by simp⟩
    · rename_i hd
      have hb : blankN false l < l.length := Classical.byContradiction fun q => hd (List.drop_eq_nil_of_le (by omega))
      split at h
      · cases h
      · cases ho : oneN (l.drop (blankN false l)) with
        | error x => rw [ho] at h; cases h
        | ok x =>
          obtain ⟨kd, tx, n, len⟩ := x
          rw [ho] at h
          simp only at h
          cases hr : toksN f (k + 1) (at0 + blankN false l + len) (l.drop (blankN false l + len)) with
          | error x => rw [hr] at h; cases h
          | ok us =>
            rw [hr] at h
            cases h
            obtain ⟨g1, g0, g2⟩ := ih _ _ _ _ hr
            refine ⟨by simp; omega, fun q => by subst q; simp at hb, fun t ht => ?_⟩
            rcases List.mem_cons.1 ht with rfl | ht
            · exact ⟨by simp only; omega, fun q => one_nums _ _ _ _ _ ho q⟩
            · refine ⟨?_, (g2 t ht).2⟩
              have h1 := (g2 t ht).1
              rw [List.length_drop] at h1
              by_cases hc : blankN false l + len ≤ l.length
              · omega
              · rw [g0 (List.drop_eq_nil_of_le (by omega))] at ht; cases ht
theorem tokens_ok {l : List Nat} {ts : List (Nat × List Nat × Nat × Nat × Nat)} (h : tokens l = .ok ts) : okSt l.length ⟨ts, 0, 0⟩ ∧ ts.length ≤ l.length + 1 := by
  unfold tokens at h
  split at h
  · cases h
  · rename_i hn
    obtain ⟨h1, _, h2⟩ := toks_ok _ _ _ _ _ h
    refine ⟨⟨fun t ht => ?_, .inl rfl, Nat.zero_le _, ?_⟩, h1⟩
    · have := h2 t ht
      exact ⟨by have := this.1; omega, this.2⟩
    · simp only; omega
theorem readv_ok {m : P Tree} {Q : Tree → Nat → Prop} (hm : Vs m Q) {l : List Nat} {t : Tree} (h : readS m l = some (.ok t)) : ∃ k, k ≤ l.length + 1 ∧ Q t k := by
  unfold readS at h
  cases ht : tokens l with
  | error e => rw [ht] at h; cases h
  | ok ts =>
    rw [ht] at h
    have h : readP m l.length ts = some (.ok t) := h
    obtain ⟨o, hl⟩ := tokens_ok ht
    unfold readP at h
    match hq : m l.length 0 ⟨ts, 0, 0⟩, h with
    | some (n, s), h =>
      obtain ⟨o2, p2⟩ := hm _ _ _ _ _ hq o
      have h := Option.some.inj h
      simp only [] at h
      obtain ⟨s1, hs1⟩ : ∃ s1, (if s.rest.isEmpty = true then s else refS l.length s) = s1 := ⟨_, rfl⟩
      rw [hs1] at h
      split at h
      · rename_i hw
        have hw0 : s.wrong = 0 := by
          split at hs1
          · subst hs1; exact hw
          · subst hs1; exact absurd hw ref_wrong
        obtain ⟨_, k, h1, h2⟩ := p2 hw0
        cases h
        exact ⟨k, by simp only at h1; omega, h2⟩
      · cases h
theorem readv_no {m : P Tree} {Q : Tree → Nat → Prop} (hm : Vs m Q) {l : List Nat} {ts : List Tok} (ht : tokens l = .ok ts) {p e : Nat} (h : readS m l = some (.error (p, e))) : p ≤ l.length ∧ (e = 40 ∨ e = 41) := by
  unfold readS at h
  rw [ht] at h
  have h : readP m l.length ts = some (.error (p, e)) := h
  obtain ⟨o, hl⟩ := tokens_ok ht
  unfold readP at h
  match hq : m l.length 0 ⟨ts, 0, 0⟩, h with
  | some (n, s), h =>
    obtain ⟨o2, p2⟩ := hm _ _ _ _ _ hq o
    have h := Option.some.inj h
    simp only [] at h
    have o3 : okSt l.length (if s.rest.isEmpty = true then s else refS l.length s) := by
      split
      · exact o2
      · exact fail_ok o2 (nxt_ok o2).1 (.inl rfl)
    generalize (if s.rest.isEmpty = true then s else refS l.length s) = s1 at h o3
    split at h
    · cases h
    · rename_i hw
      cases h
      exact ⟨o3.2.2.1, o3.2.1.resolve_left hw⟩
theorem role0 {r : Int} (hr : r = 5 ∨ r = 21) {t : Tree} (h : validT r t = true) : validT 0 t = true := by
  refine kind_role h ?_ ?_
  · obtain ⟨k, a, x, n, ks⟩ := t
    rw [validT_mk] at h
    simp only [Bool.and_eq_true, fitsI] at h
    have h2 := h.1.1.1.1.1
    show takesI 0 (k : Int) = true
    rcases hr with rfl | rfl
    · have h3 : isTypeI (k : Int) = true := h2
      simp [takesI, h3]
    · have h3 : isExprI (k : Int) = true := h2
      simp [takesI, h3]
  · intro m i; rcases hr with rfl | rfl <;> simp [asksI]
theorem checkN_0 {t : Tree} {k : Nat} (h : validT 0 t = true) (hc : cntT t ≤ 2 * k + 1) (hk : k ≤ 8193) : checkN t = 0 := by
  unfold checkN
  rw [if_neg (by omega), h]
  rfl
theorem source_may {f : Nat} {l : List Nat} (hl : l.length ≤ 8192) {t : Tree} (h : readS (programP f) l = some (.ok t)) : checkN t = 0 ∧ t.kind = 1 := by
  obtain ⟨k, hk, h1, h2, h3⟩ := readv_ok (program_valid f) h
  exact ⟨checkN_0 h2 h3 (by omega), h1⟩
theorem expr_may {f : Nat} {l : List Nat} (hl : l.length ≤ 8192) {t : Tree} (h : readS (R f).expr l = some (.ok t)) : checkN t = 0 := by
  obtain ⟨k, hk, h1, h2⟩ := readv_ok (R_valid f).2.2.1 h
  exact checkN_0 (k := k) (role0 (.inr rfl) h1) (by omega) (by omega)
theorem type_may {f : Nat} {l : List Nat} (hl : l.length ≤ 8192) {t : Tree} (h : readS (R f).typ l = some (.ok t)) : checkN t = 0 := by
  obtain ⟨k, hk, h1, h2⟩ := readv_ok (R_valid f).1 h
  exact checkN_0 (k := k) (role0 (.inl rfl) h1) (by omega) (by omega)
end Go.Proofs.YtkagkofgfjhfgaaGreatDoor
