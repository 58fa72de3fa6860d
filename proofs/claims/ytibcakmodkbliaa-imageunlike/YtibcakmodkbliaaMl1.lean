/-
  ROWS OF ANY KIND; append of what lies anywhere; the kit's LentInts.
-/
import Derived.Test.YtibcakmodkbliaaMb
namespace Go.Proofs.Ytibcakmodkbliaa
open Go.RowKit
set_option linter.unusedVariables false

theorem flat_len {α : Type} (g : α → List Value) (sz : Nat) (hg : ∀ x, (g x).length = sz) : ∀ l : List α, ((l.map g).flatten).length = l.length * sz := by
  intro l
  induction l with
  | nil => simp
  | cons x r ih => simp only [List.map_cons, List.flatten_cons, List.length_append, ih, hg, List.length_cons, Nat.add_mul]; omega
theorem flat_get {α : Type} (g : α → List Value) (sz : Nat) (hg : ∀ x, (g x).length = sz) (z : α) : ∀ (l : List α) (i d : Nat), i < l.length → d < sz → ((l.map g).flatten)[i * sz + d]? = (g (l.getD i z))[d]? := by
  intro l
  induction l with
  | nil => intro i d h; cases h
  | cons x r ih =>
    intro i d h hd
    simp only [List.map_cons, List.flatten_cons]
    cases i with
    | zero =>
      rw [List.getElem?_append_left (by rw [hg]; omega)]
      simp
    | succ i =>
      rw [List.getElem?_append_right (by rw [hg, Nat.add_mul]; omega), hg, show (i + 1) * sz + d - sz = i * sz + d by rw [Nat.add_mul]; omega, ih i d (by simpa using h) hd]
      simp
/-- A row of a call's own, as things that lie. -/
theorem rw_rowAt {w : World} {e : TypeId} {sz n m c : Nat} {a : Option Addr} {cs : List Value} {f : Nat → Nat → Value} (h : Rw w e sz (.slice a m c) m cs) (hn : n ≤ m) (hf : ∀ i, i < n → ∀ d, d < sz → cs[i * sz + d]? = some (f i d)) : RowAt w a sz n f := by
  by_cases h0 : n = 0
  · exact .inl h0
  · obtain ⟨g, cap, cur, e, ho, -⟩ := h.block (by omega)
    cases e
    refine .inr ⟨g, 0, rfl, fun i hi d hd => ?_⟩
    rw [Nat.zero_add]
    exact h.cells _ _ (hf i hi d hd)
/-- append of a row that lies anywhere, or of none. -/
theorem run_appG {tS e : TypeId} {z : Value} {size bytes : Nat} (I : ElemOk tS e z size bytes) (W : World) (ty : TypeId) (v : Value) (k : Nat) (ys : List Value) (hown : Rw W e size v k ys) (ao : Option Addr) (n cap : Nat) (xs : List Value) (hl : xs.length = n * size) (hr : n = 0 ∨ ∃ b off, ao = some ⟨b, off, none⟩ ∧ ∀ j u, xs[j]? = some u → W.cell? ⟨b, off + j, none⟩ = some u) (hno : ao = none → cap = 0) (h1 : ∀ u ∈ xs, u.oneCell' = true) (hn : k + n ≤ 100000000000) :
    ∃ ao' c' w', (Builtin.append_ #[tS, tS] ty #[v, .slice ao n cap]).run Try.prog W = .ok (.slice ao' (k + n) c') w' ∧ Rw w' e size (.slice ao' (k + n) c') (k + n) (ys ++ xs) ∧ W.grownBy w' v.ownBlock ∧ ((Value.slice ao' (k + n) c').ownBlock = v.ownBlock ∨ (Value.slice ao' (k + n) c').ownBlock = some W.heap.size) := by
  cases ao with
  | none =>
    have hn0 : n = 0 := by
      rcases hr with h0 | ⟨b, off, h0, _⟩
      · exact h0
      · cases h0
    have hc0 := hno rfl
    subst hn0; subst hc0
    have hx : xs = [] := List.eq_nil_of_length_eq_zero (by rw [hl]; omega)
    subst hx
    obtain ⟨a1, cp, rfl, -⟩ := hown.shape
    obtain ⟨i8, hi, hz0, hz1, hz2⟩ := info_parts I.info
    have hrun := run_append_owned_none (P := Try.prog) (w := W) 0 tS ty e i8 size I.under hi _ _ _ hown
    exact ⟨a1, cp, W, hrun, by simpa using hown, World.grownBy.refl _ _, .inl rfl⟩
  | some ad =>
    have hr2 : ∀ j u, xs[j]? = some u → W.cell? (ad.add j) = some u := by
      intro j u hu
      rcases hr with h0 | ⟨b, off, h0, hc⟩
      · have : xs = [] := List.eq_nil_of_length_eq_zero (by rw [hl, h0]; omega)
        rw [this] at hu; cases hu
      · cases h0
        rw [← hc j u hu]
        congr 1
        unfold Addr.add; split <;> simp_all
    obtain ⟨v', w', hrun, g1, g2, g4⟩ := run_appA I W ty v k ys hown ad n cap xs hl hr2 h1 hn
    obtain ⟨ao', c', rfl, -⟩ := g1.shape
    exact ⟨ao', c', w', hrun, g1, g2, g4⟩
theorem wpList_appG {tS e : TypeId} {z : Value} {size bytes : Nat} (I : ElemOk tS e z size bytes) {W : World} {ops : Array Oper} {rest : List Oper} {o : Oper} {a : Act} {Q : Exit → Act → World → Prop} (hgd : o.guard = none) (s x : Operand)
    (ho : o.op = .call { callee := .builtin .append, args := #[s, x], argTypes := #[tS, tS] }) (v : Value) (k : Nat) (ys : List Value) (hs : a.eval s = v) (hown : Rw W e size v k ys) (ao : Option Addr) (n cap : Nat) (xs : List Value) (hx : a.eval x = .slice ao n cap) (hl : xs.length = n * size) (hr : n = 0 ∨ ∃ b off, ao = some ⟨b, off, none⟩ ∧ ∀ j u, xs[j]? = some u → W.cell? ⟨b, off + j, none⟩ = some u) (hno : ao = none → cap = 0) (h1 : ∀ u ∈ xs, u.oneCell' = true) (hn : k + n ≤ 100000000000)
    (h : ∀ ao' c' w', Rw w' e size (.slice ao' (k + n) c') (k + n) (ys ++ xs) → W.grownBy w' v.ownBlock → ((Value.slice ao' (k + n) c').ownBlock = v.ownBlock ∨ (Value.slice ao' (k + n) c').ownBlock = some W.heap.size) → wpList Try.prog ops Q rest (a.put o.dst (.slice ao' (k + n) c')) w') :
    wpList Try.prog ops Q (o :: rest) a W := by
  obtain ⟨ao', c', w', hrun, g1, g2, g4⟩ := run_appG I W o.type v k ys hown ao n cap xs hl hr hno h1 hn
  refine wpList_plain hgd fun K hK => ?_
  unfold Oper.wp execOp
  simp only [ho, resolve, invoke, builtin, Sem.run_bind, Sem.run_pure, Result.andThen_ok, List.map_toArray, List.map_cons, List.map_nil, hs, hx, hrun]
  exact hK _ _ (h ao' c' w' g1 g2 g4)
/-- append of a row that lies anywhere, or of none, to nothing. -/
theorem wpList_app0 {tS e : TypeId} {z : Value} {size bytes : Nat} (I : ElemOk tS e z size bytes) {W : World} {ops : Array Oper} {rest : List Oper} {o : Oper} {a : Act} {Q : Exit → Act → World → Prop} (hgd : o.guard = none) (s x : Operand)
    (ho : o.op = .call { callee := .builtin .append, args := #[s, x], argTypes := #[tS, tS] }) (hs : a.eval s = .slice none 0 0) (ao : Option Addr) (n cap : Nat) (xs : List Value) (hx : a.eval x = .slice ao n cap) (hl : xs.length = n * size) (hr : n = 0 ∨ ∃ b off, ao = some ⟨b, off, none⟩ ∧ ∀ j u, xs[j]? = some u → W.cell? ⟨b, off + j, none⟩ = some u) (hno : ao = none → cap = 0) (h1 : ∀ u ∈ xs, u.oneCell' = true) (hn : n ≤ 100000000000)
    (h : ∀ ao' c' w', Rw w' e size (.slice ao' n c') n xs → Below W.heap.size W w' → (∀ b, (Value.slice ao' n c').ownBlock = some b → b = W.heap.size) → wpList Try.prog ops Q rest (a.put o.dst (.slice ao' n c')) w') :
    wpList Try.prog ops Q (o :: rest) a W := by
  refine wpList_appG I hgd s x ho (.slice none 0 0) 0 [] hs (World.ownsRow_nil _ _ _ _) ao n cap xs hx hl hr hno h1 (by omega) (fun ao' c' w' q1 q2 q3 => ?_)
  rw [Nat.zero_add] at q1 q3 ⊢
  refine h ao' c' w' (by simpa using q1) ((Below.refl _ _).grown q2 (Nat.le_refl _) (fun k e => by cases e)) (fun b q => ?_)
  rcases q3 with q3 | q3
  · rw [q3] at q; cases q
  · rw [q3] at q; cases q; rfl
/-- Things that lie, as what an append reads. -/
theorem RowAt.read {w : World} {a : Option Addr} {sz n : Nat} {f : Nat → Nat → Value} (h : RowAt w a sz n f) {cs : List Value} (hl : cs.length = n * sz) (hp : 0 < sz) (hf : ∀ i, i < n → ∀ d, d < sz → cs[i * sz + d]? = some (f i d)) : n = 0 ∨ ∃ b off, a = some ⟨b, off, none⟩ ∧ ∀ j u, cs[j]? = some u → w.cell? ⟨b, off + j, none⟩ = some u := by
  rcases h with h0 | ⟨b, off, rfl, hc⟩
  · exact .inl h0
  · refine .inr ⟨b, off, rfl, fun j u hu => ?_⟩
    have hj : j < n * sz := by
      rw [← hl]
      exact (List.getElem?_eq_some_iff.1 hu).1
    have hdm := Nat.div_add_mod j sz
    have hm : j % sz < sz := Nat.mod_lt _ hp
    have hd : j / sz < n := Nat.div_lt_of_lt_mul (by rw [Nat.mul_comm]; exact hj)
    have e1 : j = j / sz * sz + j % sz := by rw [Nat.mul_comm]; exact hdm.symm
    have h1 := hc (j / sz) hd (j % sz) hm
    have h2 := hf (j / sz) hd (j % sz) hm
    rw [← e1, hu] at h2
    rw [h2, ← h1, Nat.add_assoc, ← e1]
def intV (l : List Int) : List Value := l.map fun x => Value.int .i64 x
theorem intV_length (l : List Int) : (intV l).length = l.length := by simp [intV]
theorem intV_one (l : List Int) : ∀ u ∈ intV l, u.oneCell' = true := by
  intro u hu
  obtain ⟨x, _, rfl⟩ := List.mem_map.1 hu
  rfl
theorem intV_get (l : List Int) (i : Nat) (h : i < l.length) (d : Nat) (hd : d < 1) : (intV l)[i * 1 + d]? = some (inF l i d) := by
  obtain rfl : d = 0 := by omega
  simp [intV, inF, List.getD, h]
def mkI : List Int := [-771, -772, -773]
/-- Numbers that are lent: a row that holds them, and three marks behind. -/
def LentI (w : World) (g n c : Nat) (xs : List Int) : Prop := Rw w 3 1 (.slice (some ⟨g, 0, none⟩) (n + 3) c) (n + 3) (intV (xs ++ mkI))
theorem LentI.row {w : World} {g n c : Nat} {xs : List Int} (h : LentI w g n c xs) (hn : n = xs.length) : RowAt w (some ⟨g, 0, none⟩) 1 xs.length (inF xs) := by
  refine rw_rowAt h (by omega) (fun i hi d hd => ?_)
  rw [intV_get _ i (by simp; omega) d hd]
  unfold inF
  simp [List.getD, List.getElem?_append, hi]
structure LiRel (w : World) (n : Nat) (xs : List Int) (k : Nat) (v : Value) (wr : World) : Prop where
  row : Rw wr 3 1 v (n + k) (intV (xs ++ mkI.take k))
  new : ∀ b, v.ownBlock = some b → w.heap.size ≤ b
  bel : Below w.heap.size w wr
end Go.Proofs.Ytibcakmodkbliaa
