/-
  WHAT A CALL DOES TO A HEAP, as a value: what is used, how many things there are; two heaps of unlike limits.
-/
import Derived.Test.YtcohgbelcbniaaaOps
namespace Go.Proofs.Ytcohgbelcbniaaa
open Go.RowKit
set_option linter.unusedVariables false

structure RunF (m m' : M) (R T : Int) (mk : Bool) : Prop where
  limit : m'.limit = m.limit
  used : m.used ≤ m'.used
  trap : T ≠ 0 → R = 0 ∧ m'.used = m.used
  made : mk = true → T = 0 → R = (m.ths.length : Int) + 1 ∧ m'.ths.length = m.ths.length + 1
  none : mk = false ∨ T ≠ 0 → m'.ths.length = m.ths.length
theorem made_facts (m : M) (t : Th) (c : Nat) : RunF m (m.made t c) (m.madeR c) (m.madeT c) true := by
  by_cases h : m.used + c ≤ m.limit
  · obtain ⟨e1, e2, e3, _⟩ := made_paid t h
    have e4 := paid_used h
    have e5 := paid_ths m c
    rw [e1, e2, e3]
    refine ⟨e5.2, ?_, fun q => absurd rfl q, fun _ _ => ⟨rfl, ?_⟩, fun q => ?_⟩
    · show m.used ≤ (m.paid c).used; omega
    · show ((m.paid c).ths ++ [t]).length = _; rw [e5.1]; simp
    · rcases q with q | q
      · cases q
      · exact absurd rfl q
  · obtain ⟨e1, e2, e3, _⟩ := made_not t h
    rw [e1, e2, e3]
    exact ⟨rfl, Nat.le_refl _, fun _ => ⟨rfl, rfl⟩, fun _ q => by omega, fun _ => rfl⟩
theorem keep_facts (m : M) (t : Th) : RunF m (m.keep t) ((m.ths.length : Int) + 1) 0 true :=
  ⟨rfl, Nat.le_refl _, fun q => absurd rfl q, fun _ _ => ⟨rfl, by simp [M.keep]⟩, fun q => by rcases q with q | q; cases q; exact absurd rfl q⟩
theorem same_facts (m : M) (T : Int) (h : T ≠ 0) (mk : Bool) : RunF m m 0 T mk := ⟨rfl, Nat.le_refl _, fun _ => ⟨rfl, rfl⟩, fun _ q => absurd q h, fun _ => rfl⟩
theorem same_facts2 (m : M) (T : Int) : RunF m m 0 T false := ⟨rfl, Nat.le_refl _, fun _ => ⟨rfl, rfl⟩, (fun q => by cases q), fun _ => rfl⟩
theorem text_facts (m : M) (s : ByteArray) : RunF m (m.texted s) (m.textR s) (m.textT s) true := by
  unfold M.texted M.textR M.textT
  split
  · exact same_facts m 3 (by omega) true
  · exact made_facts _ _ _
theorem fill_facts (m : M) (t n x : Int) : RunF m (m.filled t n x) (m.fillR n) (m.fillT n) true := by
  unfold M.filled M.fillR M.fillT
  split
  · exact same_facts m 3 (by omega) true
  · exact made_facts _ _ _
theorem put_facts (m : M) (ref i x : Int) : RunF m (m.put ref i x) 0 (m.getT ref i) false := by
  unfold M.put
  rcases has_cases m ref i with ⟨h, e, _⟩ | ⟨h, e, _⟩
  · rw [if_pos h, e]
    exact ⟨rfl, Nat.le_refl _, fun q => absurd rfl q, (fun q => by cases q), fun _ => by simp [M.upd]⟩
  · rw [if_neg (by rw [h]; simp), e]
    exact same_facts2 m 2
theorem push_facts (m : M) (ref x : Int) : RunF m (m.pushed ref x) 0 (m.pushT ref) false := by
  unfold M.pushed
  by_cases h : m.pushT ref = 0
  · rw [if_pos h, h]
    obtain ⟨_, _, h3⟩ := pushT_zero h
    have e4 := paid_used h3
    have e5 := paid_ths m 1
    exact ⟨e5.2, by show m.used ≤ (m.paid 1).used; omega, fun q => absurd rfl q, (fun q => by cases q), fun _ => by simp [M.upd, e5.1]⟩
  · rw [if_neg h]
    exact same_facts m _ h false
theorem drop_facts (m : M) (ref : Int) : RunF m (m.dropped ref) 0 (m.dropT ref) false := by
  unfold M.dropped
  by_cases h : m.dropT ref = 0
  · rw [if_pos h, h]
    exact ⟨rfl, Nat.le_refl _, fun q => absurd rfl q, (fun q => by cases q), fun _ => by simp [M.upd]⟩
  · rw [if_neg h]
    exact same_facts m _ h false
def makes (s : Op) : Bool := decide (0 ≤ s.kind ∧ s.kind ≤ 4)
theorem run_facts (m : M) (s : Op) : RunF m (m.ran s) (m.runR s) (m.runT s) (makes s) := by
  unfold M.ran M.runR M.runT
  by_cases k0 : s.kind = 0
  · rw [if_pos k0, if_pos k0, if_pos k0, show makes s = true by unfold makes; simp; omega]; exact keep_facts _ _
  rw [if_neg k0, if_neg k0, if_neg k0]
  by_cases k1 : s.kind = 1
  · rw [if_pos k1, if_pos k1, if_pos k1, show makes s = true by unfold makes; simp; omega]; exact text_facts _ _
  rw [if_neg k1, if_neg k1, if_neg k1]
  by_cases k2 : s.kind = 2
  · rw [if_pos k2, if_pos k2, if_pos k2, show makes s = true by unfold makes; simp; omega]; exact made_facts _ _ _
  rw [if_neg k2, if_neg k2, if_neg k2]
  by_cases k3 : s.kind = 3
  · rw [if_pos k3, if_pos k3, if_pos k3, show makes s = true by unfold makes; simp; omega]; exact fill_facts _ _ _ _
  rw [if_neg k3, if_neg k3, if_neg k3]
  by_cases k4 : s.kind = 4
  · rw [if_pos k4, if_pos k4, if_pos k4, show makes s = true by unfold makes; simp; omega]; exact made_facts _ _ _
  rw [if_neg k4, if_neg k4, if_neg k4, show makes s = false by unfold makes; simp; omega]
  by_cases k5 : s.kind = 5
  · rw [if_pos k5, if_pos k5]; exact same_facts2 m _
  rw [if_neg k5, if_neg k5]
  by_cases k6 : s.kind = 6
  · rw [if_pos k6, if_pos k6]; exact put_facts _ _ _ _
  rw [if_neg k6, if_neg k6]
  by_cases k7 : s.kind = 7
  · rw [if_pos k7, if_pos k7]; exact push_facts _ _ _
  rw [if_neg k7, if_neg k7]
  exact drop_facts _ _

/-! ### Two heaps of unlike limits -/
def Like (m g : M) : Prop := m.ths = g.ths ∧ m.used = g.used ∧ m.limit ≤ g.limit
theorem Like.at {m g : M} (h : Like m g) (ref : Int) : m.at ref = g.at ref := by unfold M.at; rw [h.1]
theorem Like.has {m g : M} (h : Like m g) (ref i : Int) : m.has ref i = g.has ref i := by unfold M.has; rw [h.at]
theorem Like.getT {m g : M} (h : Like m g) (ref i : Int) : m.getT ref i = g.getT ref i := by unfold M.getT; rw [h.has]
theorem like_made {m g : M} (h : Like m g) (t : Th) (c : Nat) (h4 : m.madeT c ≠ 4) : m.madeR c = g.madeR c ∧ m.madeT c = g.madeT c ∧ Like (m.made t c) (g.made t c) := by
  by_cases hp : m.used + c ≤ m.limit
  · have hq : g.used + c ≤ g.limit := by have := h.2.1; have := h.2.2; omega
    obtain ⟨e1, e2, e3, _⟩ := made_paid t hp
    obtain ⟨f1, f2, f3, _⟩ := made_paid t hq
    rw [e1, e2, e3, f1, f2, f3, h.1]
    refine ⟨rfl, rfl, ?_, ?_, ?_⟩
    · show (m.paid c).ths ++ [t] = (g.paid c).ths ++ [t]
      rw [(paid_ths m c).1, (paid_ths g c).1, h.1]
    · show (m.paid c).used = (g.paid c).used
      rw [paid_used hp, paid_used hq, h.2.1]
    · show (m.paid c).limit ≤ (g.paid c).limit
      rw [(paid_ths m c).2, (paid_ths g c).2]; exact h.2.2
  · exact absurd (made_not t hp).2.2.1 h4
theorem like_upd {m g : M} (h : Like m g) (ref : Int) (t : Th) : Like (m.upd ref t) (g.upd ref t) := ⟨by show m.ths.set _ _ = g.ths.set _ _; rw [h.1], h.2.1, h.2.2⟩
theorem like_run {m g : M} (h : Like m g) (s : Op) (h4 : m.runT s ≠ 4) : m.runR s = g.runR s ∧ m.runT s = g.runT s ∧ Like (m.ran s) (g.ran s) := by
  unfold M.runT at h4
  unfold M.ran M.runR M.runT
  by_cases k0 : s.kind = 0
  · simp only [if_pos k0]
    exact ⟨by rw [h.1], trivial, by show m.ths ++ _ = g.ths ++ _; rw [h.1], h.2.1, h.2.2⟩
  simp only [if_neg k0] at h4 ⊢
  by_cases k1 : s.kind = 1
  · simp only [if_pos k1] at h4 ⊢
    unfold M.textT at h4
    unfold M.textR M.textT M.texted
    by_cases q : 65536 < s.text.size
    · simp only [if_pos q]; exact ⟨trivial, trivial, h⟩
    · simp only [if_neg q] at h4 ⊢; exact like_made h _ _ h4
  simp only [if_neg k1] at h4 ⊢
  by_cases k2 : s.kind = 2
  · simp only [if_pos k2] at h4 ⊢; exact like_made h _ _ h4
  simp only [if_neg k2] at h4 ⊢
  by_cases k3 : s.kind = 3
  · simp only [if_pos k3] at h4 ⊢
    unfold M.fillT at h4
    unfold M.fillR M.fillT M.filled
    by_cases q : s.m < 0 ∨ 65536 < s.m
    · simp only [if_pos q]; exact ⟨trivial, trivial, h⟩
    · simp only [if_neg q] at h4 ⊢; exact like_made h _ _ h4
  simp only [if_neg k3] at h4 ⊢
  by_cases k4 : s.kind = 4
  · simp only [if_pos k4] at h4 ⊢; exact like_made h _ _ h4
  simp only [if_neg k4] at h4 ⊢
  by_cases k5 : s.kind = 5
  · simp only [if_pos k5]; exact ⟨trivial, h.getT _ _, h⟩
  simp only [if_neg k5] at h4 ⊢
  by_cases k6 : s.kind = 6
  · simp only [if_pos k6]
    refine ⟨trivial, h.getT _ _, ?_⟩
    unfold M.put
    rw [h.has, h.at]
    split
    · exact like_upd h _ _
    · exact h
  simp only [if_neg k6] at h4 ⊢
  by_cases k7 : s.kind = 7
  · simp only [if_pos k7] at h4 ⊢
    have e : m.pushT s.ref = g.pushT s.ref := by
      unfold M.pushT at h4 ⊢
      rw [h.at] at h4 ⊢
      split
      · rfl
      · rename_i q1
        rw [if_neg q1] at h4
        split
        · rfl
        · rename_i q2
          rw [if_neg q2] at h4
          exact (like_made h dT 1 h4).2.1
    refine ⟨trivial, e, ?_⟩
    unfold M.pushed
    rw [← e, h.at]
    split
    · rename_i q
      obtain ⟨_, _, hp⟩ := pushT_zero q
      have hq : g.used + 1 ≤ g.limit := by have := h.2.1; have := h.2.2; omega
      refine like_upd ⟨?_, ?_, ?_⟩ _ _
      · rw [(paid_ths m 1).1, (paid_ths g 1).1, h.1]
      · rw [paid_used hp, paid_used hq, h.2.1]
      · rw [(paid_ths m 1).2, (paid_ths g 1).2]; exact h.2.2
    · exact h
  simp only [if_neg k7] at h4 ⊢
  have e : m.dropT s.ref = g.dropT s.ref := by unfold M.dropT; rw [h.at]
  refine ⟨trivial, e, ?_⟩
  unfold M.dropped
  rw [← e, h.at]
  split
  · exact like_upd h _ _
  · exact h
end Go.Proofs.Ytcohgbelcbniaaa
