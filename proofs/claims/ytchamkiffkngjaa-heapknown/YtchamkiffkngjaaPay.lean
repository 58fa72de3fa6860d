/-
  CONTRACTS of the landed heap's inner calls: pay, find, rowOf, textOf, New, Used.
-/
import Derived.Test.YtchamkiffkngjaaHp
import Derived.Deep.RegionLaw
import Derived.Deep.DeepCutAuto
import Derived.Laws.AppendOwnNone
import Derived.Deep.QuietTactic
import Derived.BigQuiet
namespace Go.Proofs.Ytchamkiffkngjaa
open Go.RowKit
set_option linter.unusedVariables false

set_option maxHeartbeats 1000000 in
theorem payO {w : World} {p : Nat} {m : M} {vt : Value} {bs : Nat → Nat} {vs : Nat → Value} (H : HOwn w p m vt bs vs) (c : Nat) (hc : c ≤ 100000000000000000) : Calls Try.prog 21 #[ptr p, .int .i64 (c : Int)] w fun e w' => e = .returned (.bool (m.pays c)) ∧ HOwn w' p (m.paid c) vt bs vs ∧ Fr (fun b => b = p) w w' ∧ w'.heap.size = w.heap.size := by
  have ho := H.own
  have h1 := H.inv.used
  have h2 := H.inv.limit
  obtain ⟨L, hL⟩ : ∃ L, Hid (m.limit = L) := ⟨_, rfl⟩
  obtain ⟨U, hU⟩ : ∃ U, Hid (m.used = U) := ⟨_, rfl⟩
  rw [hL.out, hU.out] at ho h1
  rw [hL.out] at h2
  obtain ⟨c0, c1, c2, c3, hf⟩ := own4 ho
  by_cases hp : U + c ≤ L
  · have hd : decide ((L : Int) - U < c) = false := by simp; omega
    have e1 : m.pays c = true := by unfold M.pays; rw [hL.out, hU.out]; simpa using hp
    have HR : Hid (∀ q, HOwn ((w.drewN q).setCell ⟨p, 2, none⟩ (.int .i64 ((U : Int) + c))) p (m.paid c) vt bs vs ∧ Fr (fun b => b = p) w ((w.drewN q).setCell ⟨p, 2, none⟩ (.int .i64 ((U : Int) + c))) ∧ ((w.drewN q).setCell ⟨p, 2, none⟩ (.int .i64 ((U : Int) + c))).heap.size = w.heap.size) := by
      intro q
      have ep : m.paid c = ⟨m.ths, m.used + c, m.limit⟩ := by unfold M.paid; rw [hL.out, hU.out, if_pos hp]
      have hn : ∀ b, Blk p m.ths.length vt bs vs b → b ≠ p → ((w.drewN q).setCell ⟨p, 2, none⟩ (.int .i64 ((U : Int) + c))).heap[b]? = w.heap[b]? := fun b _ hne => Below.heap_setCell (w.drewN q) ⟨p, 2, none⟩ _ b hne
      refine ⟨?_, ((Fr.refl (fun b => b = p) w).drewN q).set (g := p) (.inr rfl) 2 _, by simp [World.setCell, World.drewN]⟩
      have hi := H.inv.paid c
      rw [ep] at hi ⊢
      have apl : ∀ i, i < m.ths.length → bs i ≠ p ∧ (vs i).ownBlock ≠ some p := fun i hi => ⟨(H.apart hi).1, (H.apart hi).2.2.1⟩
      refine ⟨?_, ?_, ?_, H.injB, H.injV, hi⟩
      · have := (ho.drewN q).set 2 (.int .i64 ((U : Int) + c))
        show Own _ p #[.bool true, .int .i64 (m.limit : Int), .int .i64 ((m.used + c : Nat) : Int), vt] 45
        rw [hL.out, hU.out]
        simpa using this
      · exact H.row.on fun g hg => hn g (.inr (.inl hg)) (by rintro rfl; exact H.row.ne ho (by decide) hg)
      · intro i t ht
        have hil := (List.getElem?_eq_some_iff.1 ht).1
        exact (H.thing i t ht).on (hn _ (.inr (.inr (.inl ⟨i, hil, rfl⟩))) (apl i hil).1) fun g hg => hn g (.inr (.inr (.inr ⟨i, hil, hg⟩))) (by rintro rfl; exact (apl i hil).2 hg)
    rw [e1]
    clear H
    go_enter Try.func21, Try.ntmps21
    go_wp2_with fail
    go_quiet (fail)
    go_wp2_with fail
    go_ret
    exact ⟨rfl, HR.out _⟩
  · have hd : decide ((L : Int) - U < c) = true := by simp; omega
    have e1 : m.pays c = false := by unfold M.pays; rw [hL.out, hU.out]; simpa using hp
    have e2 : m.paid c = m := by unfold M.paid; rw [hL.out, hU.out, if_neg hp]
    rw [e1, e2]
    have HR : Hid (∀ q, HOwn (w.drewN q) p m vt bs vs ∧ Fr (fun b => b = p) w (w.drewN q) ∧ (w.drewN q).heap.size = w.heap.size) := fun q => ⟨H.on fun b _ => rfl, (Fr.refl _ w).drewN q, rfl⟩
    clear H
    go_enter Try.func21, Try.ntmps21
    go_wp2_with fail
    go_quiet (fail)
    go_wp2_with fail
    go_ret
    exact ⟨rfl, HR.out _⟩
theorem paid_ths (m : M) (c : Nat) : (m.paid c).ths = m.ths ∧ (m.paid c).limit = m.limit := by unfold M.paid; split <;> exact ⟨rfl, rfl⟩
theorem payS {w : World} {p : Nat} {m : M} {F : Nat → Prop} (h : HAt w p m F) (c : Nat) (hc : c ≤ 100000000000000000) : Calls Try.prog 21 #[ptr p, .int .i64 (c : Int)] w fun e w' => e = .returned (.bool (m.pays c)) ∧ HRet w p (m.paid c) F w' := by
  obtain ⟨vt, bs, vs, H, hF, hl⟩ := h
  refine (payO H c hc).mono ?_
  rintro e w' ⟨rfl, h1, h2, h3⟩
  exact ⟨rfl, HRet.mk' (n := m.ths.length) hF h1 (fun b hb => .inl (by rw [(paid_ths m c).1] at hb; exact hb)) (h2.mono fun k _ e => by rw [e]; exact hF p (.inl rfl))⟩
end Go.Proofs.Ytchamkiffkngjaa
