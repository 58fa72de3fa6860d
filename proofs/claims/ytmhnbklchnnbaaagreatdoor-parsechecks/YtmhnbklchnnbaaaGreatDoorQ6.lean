import Derived.Test.YtmhnbklchnnbaaaGreatDoorQ4
import Derived.Test.YtmhnbklchnnbaaaGreatDoorRows
import Derived.Test.YtmhnbklchnnbaaaGreatDoorJXLow
import Derived.ProofKit
import Derived.LaidMore
import Derived.LaidLaws
import Derived.Stop.LaidErr
import Derived.OpenShut
import Derived.Stop.Joined
namespace Go.Proofs.YtmhnbklchnnbaaaGreatDoor
set_option linter.unusedVariables false
theorem hex_lt (c : Nat) (h : hexN c ≠ 16) : hexN c < 16 := by
  unfold hexN at h ⊢
  split
  · rename_i hd
    unfold digitB at hd
    simp at hd
    omega
  · rename_i hd
    rw [if_neg hd] at h
    split
    · omega
    · rename_i h2
      rw [if_neg h2] at h
      split
      · omega
      · rename_i h3
        rw [if_neg h3] at h
        exact absurd rfl h
theorem esc_good {r : List Nat} {b k : Nat} (h : escN r = .ok (b, k)) : b < 256 ∧ 2 ≤ k := by
  cases r with
  | nil => simp [escN] at h
  | cons c r1 =>
    unfold escN at h
    simp only at h
    split at h
    · cases h
    · split at h
      · rename_i hc; cases h; omega
      · split at h
        · cases h; omega
        · split at h
          · cases h; omega
          · split at h
            · cases h; omega
            · split at h
              · cases r1 with
                | nil => cases h
                | cons d r2 =>
                  simp only at h
                  split at h
                  · cases h
                  · split at h
                    · cases h
                    · rename_i hd
                      cases r2 with
                      | nil => cases h
                      | cons e r3 =>
                        simp only at h
                        split at h
                        · cases h
                        · split at h
                          · cases h
                          · rename_i he
                            cases h
                            have := hex_lt d hd
                            have := hex_lt e he
                            omega
              · cases h
theorem text_good : ∀ (f : Nat) (l o : List Nat) (n : Nat), textN f l = .ok (o, n) → (∀ c ∈ l, c < 256) → (∀ c ∈ o, c < 256) ∧ o.length ≤ f := by
  intro f
  induction f with
  | zero => intro l o n h; simp [textN] at h
  | succ f ih =>
    intro l o n h hl
    cases l with
    | nil => simp [textN] at h
    | cons c r =>
      unfold textN at h
      split at h
      · cases h
      · split at h
        · cases h; exact ⟨by simp, by simp⟩
        · split at h
          · cases hr : textN f r with
            | error x => rw [hr] at h; obtain ⟨p, e⟩ := x; cases p <;> cases h
            | ok x =>
              obtain ⟨o1, n1⟩ := x
              rw [hr] at h
              cases h
              obtain ⟨g1, g2⟩ := ih r o1 n1 hr fun d hd => hl d (List.mem_cons_of_mem _ hd)
              refine ⟨fun d hd => ?_, by simp; omega⟩
              rcases List.mem_cons.1 hd with rfl | hd
              · exact hl _ (by simp)
              · exact g1 d hd
          · cases he : escN r with
            | error e => rw [he] at h; simp only at h; split at h <;> cases h
            | ok x =>
              obtain ⟨b, k⟩ := x
              rw [he] at h
              simp only at h
              cases hr : textN f (r.drop (k - 1)) with
              | error x => rw [hr] at h; obtain ⟨p, e⟩ := x; cases p <;> cases h
              | ok x =>
                obtain ⟨o1, n1⟩ := x
                rw [hr] at h
                cases h
                obtain ⟨g1, g2⟩ := ih _ o1 n1 hr fun d hd => hl d (List.mem_cons_of_mem _ (List.mem_of_mem_drop hd))
                refine ⟨fun d hd => ?_, by simp; omega⟩
                rcases List.mem_cons.1 hd with rfl | hd
                · exact (esc_good he).1
                · exact g1 d hd
theorem sign_good (x : List Nat) (h : x ∈ signL) : (∀ c ∈ x, c < 256) ∧ x.length ≤ 2 := by
  have : ∀ x ∈ signL, (∀ c ∈ x, c < 256) ∧ x.length ≤ 2 := by decide
  exact this x h
theorem takeWhile_good (q : Nat → Bool) (l : List Nat) (hl : ∀ c ∈ l, c < 256) : (∀ c ∈ l.takeWhile q, c < 256) ∧ (l.takeWhile q).length ≤ l.length :=
  ⟨fun c hc => hl c ((List.takeWhile_sublist q).subset hc), (List.takeWhile_sublist q).length_le⟩
theorem one_good (l : List Nat) (kd : Nat) (tx : List Nat) (n len : Nat) (h : oneN l = .ok (kd, tx, n, len)) (hl : ∀ c ∈ l, c < 256) : (∀ c ∈ tx, c < 256) ∧ tx.length ≤ l.length + 2 := by
  cases l with
  | nil => simp [oneN] at h
  | cons c r =>
    unfold oneN at h
    simp only at h
    split at h
    · cases h
      have := takeWhile_good wordB (c :: r) hl
      exact ⟨this.1, by omega⟩
    · split at h
      · split at h
        · cases h
          have := takeWhile_good wordB ((c :: r).drop ((c :: r).takeWhile digitB).length) fun d hd => hl d (List.mem_of_mem_drop hd)
          exact ⟨this.1, by have := this.2; rw [List.length_drop] at this; omega⟩
        · cases h
      · split at h
        · cases hr : textN (r.length + 1) r with
          | error x => rw [hr] at h; obtain ⟨p, e⟩ := x; cases p <;> cases h
          | ok x =>
            obtain ⟨o1, n1⟩ := x
            rw [hr] at h
            cases h
            have := text_good _ _ _ _ hr fun d hd => hl d (List.mem_cons_of_mem _ hd)
            exact ⟨this.1, by simp; omega⟩
        · cases hs : signX (c :: r) with
          | none => rw [hs] at h; cases h
          | some x =>
            rw [hs] at h
            cases h
            have := sign_good _ (List.mem_of_find?_eq_some hs)
            exact ⟨this.1, by omega⟩
theorem toks_good : ∀ (f k at0 : Nat) (l : List Nat) (ts : List (Nat × List Nat × Nat × Nat × Nat)), toksN f k at0 l = .ok ts → (∀ c ∈ l, c < 256) → ts.length ≤ f ∧ ∀ t ∈ ts, (∀ c ∈ t.2.1, c < 256) ∧ t.2.1.length ≤ l.length + 2 := by
  intro f
  induction f with
  | zero => intro k at0 l ts h hl; simp [toksN] at h; subst h; exact ⟨by simp, by simp⟩
  | succ f ih =>
    intro k at0 l ts h hl
    unfold toksN at h
    simp only at h
    split at h
    · cases h; exact ⟨by simp, by simp⟩
    · split at h
      · cases h
      · cases ho : oneN (l.drop (blankN false l)) with
        | error x => rw [ho] at h; cases h
        | ok x =>
          obtain ⟨kd, tx, n, len⟩ := x
          rw [ho] at h
          simp only at h
          cases hr : toksN f (k + 1) (at0 + blankN false l + len) (l.drop (blankN false l + len)) with
          | error x => rw [hr] at h; cases h
          | ok us =>
            rw [hr] at h
            cases h
            obtain ⟨g1, g2⟩ := ih _ _ _ _ hr fun c hc => hl c (List.mem_of_mem_drop hc)
            refine ⟨by simp; omega, fun t ht => ?_⟩
            rcases List.mem_cons.1 ht with rfl | ht
            · have := one_good _ _ _ _ _ ho fun c hc => hl c (List.mem_of_mem_drop hc)
              rw [List.length_drop] at this
              exact ⟨this.1, by have := this.2; simp only; omega⟩
            · have := g2 t ht
              rw [List.length_drop] at this
              exact ⟨this.1, by omega⟩
theorem tokens_good (l : List Nat) (ts : List (Nat × List Nat × Nat × Nat × Nat)) (h : tokens l = .ok ts) (hl : ∀ c ∈ l, c < 256) : ts.length ≤ 65537 ∧ ∀ t ∈ ts, (∀ c ∈ t.2.1, c < 256) ∧ t.2.1.length ≤ 1048576 := by
  unfold tokens at h
  split at h
  · cases h
  · rename_i hn
    obtain ⟨h1, h2⟩ := toks_good _ _ _ _ _ h hl
    exact ⟨by omega, fun t ht => ⟨(h2 t ht).1, by have := (h2 t ht).2; omega⟩⟩
open Go.ChangeShapes Go.WideShapes Go.ChangeAt Go.RowKit
theorem own : ownKnob Tryz.prog.godebug = none := by kernel_rfl
def laidL : List (String × DataW Unit) := Rows.parseChecksRow.laid
theorem gRange : Tryz.prog.globalNamed "strconv.ErrRange" = some 2 := by kernel_rfl
theorem gRangeT : (Tryz.prog.globals[2]?).map (·.type) = some 106 := by kernel_rfl
theorem cellsErrs : Tryz.prog.cellsOf 132 = 1 := by kernel_rfl
theorem cellsStr : Tryz.prog.cellsOf 9 = 1 := by kernel_rfl
theorem starErr : "*" ++ "errors.errorString" = "*errors.errorString" := by decide
theorem rowErr (u : TypeId) (h : Tryz.prog.typeName? 3 u = some "*errors.errorString") : u = 130 :=
  typeName_ptr_named (nm := "errors.errorString") (by rw [starErr]; kernel_rfl) (by kernel_rfl) (by decide) u (by rw [starErr]; exact h)
theorem door_met (os : Os) (args : Array Value) : laidMetH Tryz.prog laidL ((World.doorLaid Tryz.prog 62 os).forCall (fun _ _ => 0) ⟨#[], args, []⟩).memory :=
  laidMetH_of_parts3 (fuel := 8) (laidMet_of_run' 8 (by kernel_rfl) (by kernel_rfl)) (by kernel_rfl) (by kernel_rfl)
theorem of_laid {W : World} (h : laidMetH Tryz.prog laidL W) : Laid W := by
  rw [MakeChecks.laidMetH_plain _ _ _ (by kernel_rfl)] at h
  have h3 := h.tail.tail.tail
  obtain ⟨a, s, hv, _, _, _⟩ := laid_sentinel h3 gRange gRangeT Tryz.underlying106 rowErr Tryz.underlying130 Tryz.underlying132 rfl rfl Tryz.underlying9 cellsErrs cellsStr
  have hc : W.cell? ⟨2, 0, none⟩ = some (.iface 130 (.pointer (some a))) := by
    have h0 := World.var?_cell gRange hv 0
    simpa using h0
  refine ⟨?_, _, _, hc⟩
  unfold World.cell? at hc
  cases hq : W.heap[2]? with
  | none => rw [hq] at hc; simp at hc
  | some o => exact (Array.getElem?_eq_some_iff.1 hq).1
def endT (t : Tok) : Prop := t.1 = 0 ∨ (t.1 = 4 ∧ t.2.1 = [41]) ∨ (t.1 = 1 ∧ (t.2.1 = [102, 110] ∨ t.2.1 = [114, 101, 99, 111, 114, 100]))
structure Mv where
  mt : Tok → Tok
  g : Int → Int
  ys : List Tok
  E1 : Nat
  E2 : Nat
  dl : Nat
  hm : ∀ t, (mt t).1 = t.1 ∧ (mt t).2.1 = t.2.1 ∧ (mt t).2.2.1 = t.2.2.1 ∧ ((mt t).2.2.2.1 : Int) = g (t.2.2.2.1 : Int)
  pl : Nat → Nat
  hys : ys = [] ∨ ∃ t q, ys = t :: q ∧ endT t
def Mv.ext (v : Mv) (s : St) : St := ⟨s.rest.map v.mt ++ v.ys, s.wrong, v.pl s.place⟩
def Mv.ts (v : Mv) (t u : Tok) : Prop := u.1 = t.1 ∧ u.2.1 = t.2.1 ∧ u.2.2.1 = t.2.2.1 ∧ (u.2.2.2.1 : Int) = v.g (t.2.2.2.1 : Int)
def Mv.tk (v : Mv) (t u : Tok) : Prop := v.ts t u ∨ (t.1 = 0 ∧ endT u)
def Sm (v : Mv) {A : Type} (V : A → A → Prop) (m1 m2 : P A) (s : St) : Prop := ∀ d a s', m1 v.E1 d s = some (a, s') → s'.wrong = 0 →
  ∀ a2 s2, m2 v.E2 (d + v.dl) (v.ext s) = some (a2, s2) → (V a a2 ∧ s2 = v.ext s') ∨ (s2.wrong = 41 ∧ v.dl ≠ 0)
def Sim (v : Mv) {A : Type} (V : A → A → Prop) (m1 m2 : P A) : Prop := ∀ s, Sm v V m1 m2 s
end Go.Proofs.YtmhnbklchnnbaaaGreatDoor
