/-
  OpsBack, walked.
-/
import Derived.Test.YthkbjmbameofoaaDoorFo
import Derived.Test.YthkbjmbameofoaaDoorAi
namespace Go.Proofs.YthkbjmbameofoaaDoor
open Go.RowKit
set_option linter.unusedVariables false

def okP (y : Pi) : Bool := y.1.ok
def fs (ss : List Pi) (k : Nat) : List Pi := (ss.take k).filter okP
def codeOf (ps : List Pi) : List Nat := (ps.map fun y => y.1.enc).flatten
def sumA (ss : List Pi) (k : Nat) : Nat := ((ss.take k).map fun y => y.1.arms.length).sum
theorem take_at {ss : List Pi} {k : Nat} (h : k < ss.length) : ss.take (k + 1) = ss.take k ++ [ss.getD k zP] := by
  rw [List.take_succ_eq_append_getElem h]; congr 2; simp [List.getD, h]
theorem sumA_succ {ss : List Pi} {k : Nat} (h : k < ss.length) : sumA ss (k + 1) = sumA ss k + (ss.getD k zP).1.arms.length := by
  unfold sumA; rw [take_at h]; simp
theorem sumA_le (ss : List Pi) (k : Nat) (h : k ≤ ss.length) : sumA ss k ≤ sumA ss ss.length := by
  unfold sumA
  rw [List.take_length]
  conv => rhs; rw [← List.take_append_drop k ss, List.map_append, List.sum_append]
  omega
theorem fs_succ {ss : List Pi} {k : Nat} (h : k < ss.length) : fs ss (k + 1) = if (ss.getD k zP).1.ok = true then fs ss k ++ [ss.getD k zP] else fs ss k := by
  unfold fs
  rw [take_at h, List.filter_append]
  generalize ss.getD k zP = Y
  unfold okP
  cases hc : Y.1.ok <;> simp [hc]
theorem fs_len (ss : List Pi) (k : Nat) : (fs ss k).length ≤ k := by
  unfold fs
  exact Nat.le_trans (List.length_filter_le _ _) (by rw [List.length_take]; omega)
theorem fs_ok (ss : List Pi) (k : Nat) : ∀ y ∈ fs ss k, y.1.ok = true := fun y hy => (List.mem_filter.1 hy).2
theorem fs_mem (ss : List Pi) (k : Nat) : ∀ y ∈ fs ss k, y ∈ ss := fun y hy => List.mem_of_mem_take (List.mem_filter.1 hy).1
theorem enc_bound (x : In) : x.enc.length ≤ 19 + x.arms.length * 12 := by
  rw [enc_length]
  unfold In.size
  split
  · omega
  · rename_i l hl
    have ho := (lay_ok hl).1
    have := ho.a.sz
    have := ho.b.sz
    split
    · unfold Lay.size; split <;> omega
    · omega
theorem code_bound (ss : List Pi) : ∀ k, k ≤ ss.length → (codeOf (fs ss k)).length ≤ 19 * k + sumA ss k * 12 := by
  intro k
  induction k with
  | zero => intro _; simp [fs, codeOf]
  | succ k ih =>
    intro h
    have hk := ih (by omega)
    rw [fs_succ (by omega), sumA_succ (by omega)]
    have hb := enc_bound (ss.getD k zP).1
    split
    · rw [show codeOf (fs ss k ++ [ss.getD k zP]) = codeOf (fs ss k) ++ (ss.getD k zP).1.enc by simp [codeOf], List.length_append]
      omega
    · omega
def pv (y : Pi) : In × Value := (y.1, .slice y.2.1 y.1.arms.length y.2.2)
def plc : Nat → List Pi → List Nat
  | _, [] => []
  | p, y :: r => p :: plc (p + y.1.size) r
theorem plc_places : ∀ (ps : List Pi) (p : Nat), plc p ps = places p (ps.map Prod.fst) := by
  intro ps
  induction ps with
  | nil => intro p; rfl
  | cons y r ih => intro p; show p :: plc _ r = p :: places _ (r.map Prod.fst); rw [ih]
theorem plc_append : ∀ (ps : List Pi) (y : Pi) (p : Nat), plc p (ps ++ [y]) = plc p ps ++ [p + (codeOf ps).length] := by
  intro ps
  induction ps with
  | nil => intro y p; simp [plc, codeOf]
  | cons z r ih =>
    intro y p
    show p :: plc _ (r ++ [y]) = p :: (plc _ r ++ _)
    rw [ih]
    have : (codeOf (z :: r)).length = z.1.size + (codeOf r).length := by unfold codeOf; rw [List.map_cons, List.flatten_cons, List.length_append, enc_length]
    rw [this, Nat.add_assoc]
theorem plc_length : ∀ (ps : List Pi) (p : Nat), (plc p ps).length = ps.length := by
  intro ps
  induction ps with
  | nil => intro p; rfl
  | cons z r ih => intro p; show (plc _ r).length + 1 = _; rw [ih]; rfl
structure BkRel (W : World) (ss : List Pi) (vc vw vp i : Value) (wr : World) : Prop where
  ex : ∃ k : Nat, k ≤ ss.length ∧ i = .int .i64 (k : Int) ∧ Rw wr 5 1 vc (codeOf (fs ss k)).length (nums (codeOf (fs ss k))) ∧ Rw wr 24 4 vw (fs ss k).length (insC ((fs ss k).map pv)) ∧ Rw wr 3 1 vp (fs ss k).length (intC (plc 0 (fs ss k)))
  nc : ∀ b, vc.ownBlock = some b → W.heap.size ≤ b
  nw : ∀ b, vw.ownBlock = some b → W.heap.size ≤ b
  np : ∀ b, vp.ownBlock = some b → W.heap.size ≤ b
  bel : Below W.heap.size W wr
theorem code_all (ps : List Pi) (h : ∀ y ∈ ps, y.1.ok = true) : allD (codeOf ps) = (ps.map Prod.fst, plc 0 ps, 0) := by
  unfold allD
  rw [plc_places]
  refine allR_enc (codeOf ps) (ps.map Prod.fst) _ 0 ?_ ?_ (by omega)
  · intro x hx
    obtain ⟨y, hy, rfl⟩ := List.mem_map.1 hx
    exact h y hy
  · rw [List.drop_zero]
    unfold codeOf
    rw [List.map_map]; rfl
theorem code_byte (ps : List Pi) (h : ∀ y ∈ ps, y.1.op < 256) : ∀ c ∈ codeOf ps, c < 256 := by
  intro c hc
  unfold codeOf at hc
  obtain ⟨l, hl, hc⟩ := List.mem_flatten.1 hc
  obtain ⟨y, hy, rfl⟩ := List.mem_map.1 hl
  exact enc_byte y.1 (h y hy) c hc
/-- The row of the instructions that are some, as they came in, lies somewhere. -/
theorem want_lies {w : World} {v : Value} {ps : List Pi} (h : Rw w 24 4 v ps.length (insC (ps.map pv))) (hl : ∀ y ∈ ps, InLies w y.1 y.2.1) : ∃ (ao : Option Addr) (cp : Nat), v = .slice ao ps.length cp ∧ InsLies w ao ps := by
  obtain ⟨ao, cp, rfl, -⟩ := h.shape
  refine ⟨ao, cp, rfl, hl, ?_⟩
  by_cases h0 : ps = []
  · exact .inl h0
  · obtain ⟨g, cap, cur, e, ho, -⟩ := h.block (List.length_pos_iff.2 h0)
    cases e
    refine .inr ⟨g, 0, rfl, ho.lt, fun i hi => ?_⟩
    obtain ⟨h1, h2, h3, h4⟩ := insC_get (ps.map pv) i (by rw [List.length_map]; exact hi)
    have hg : (ps.map pv).getD i (zI, undef) = pv (ps.getD i zP) := by simp only [List.getD, List.getElem?_map, List.getElem?_eq_getElem hi, Option.map_some, Option.getD_some]
    rw [hg] at h1 h2 h3 h4
    rw [Nat.zero_add]
    exact ⟨h.cells _ _ h1, h.cells _ _ h2, h.cells _ _ h3, h.cells _ _ h4⟩
end Go.Proofs.YthkbjmbameofoaaDoor
