/-
  Lb, what is reached of it.
-/
import Derived.Test.YtkmmnocooibljaaGreatDoorLz
import Derived.Test.YtkmmnocooibljaaGreatDoorBsq
import Derived.Laws.CopyRow
import Derived.Deep.MidRow
import Derived.Deep.Cut
import Derived.Deep.CutBlock
import Derived.Deep.Onto
import Derived.Deep.RegionHeld3
import Derived.Deep.LoopGhost
import Derived.Laws.BytesArg
import Derived.Deep.QuietTactic
import Derived.BigQuiet
namespace Go.Proofs.YtkmmnocooibljaaGreatDoor
open Go.ChangeShapes Go.WideShapes Go.ChangeAt Go.RowKit Go.Deep
set_option linter.unusedVariables false

theorem info8 : (Tryz.prog.info? 5).map (fun i => (i.zero, i.size, i.bytes)) = some (some (.int .u8 0), 1, 1) := by kernel_rfl
theorem nums_length (xs : List Nat) : (nums xs).length = xs.length := by simp [nums]
theorem nums_append (xs ys : List Nat) : nums (xs ++ ys) = nums xs ++ nums ys := by simp [nums]
theorem nums_one (xs : List Nat) : ∀ u ∈ nums xs, u.oneCell' = true := by
  intro u hu
  simp only [nums, List.mem_map] at hu
  obtain ⟨c, _, rfl⟩ := hu
  rfl
/-- append of bytes that lie anywhere (or of none). -/
theorem run_appL (W : World) (ty : TypeId) (v : Value) (xs : List Nat) (hown : Rw W 5 1 v xs.length (nums xs)) (ao : Option Addr) (m c : Nat) (ys : List Nat) (hl : Lies W ao ys) (hm : m = ys.length) (hno : ao = none → c = 0) (hn : xs.length + m ≤ 100000000000) :
    ∃ ao' n' c' w', (Builtin.append_ #[30, 30] ty #[v, .slice ao m c]).run Tryz.prog W = .ok (.slice ao' n' c') w' ∧ n' = (xs ++ ys).length ∧ Rw w' 5 1 (.slice ao' n' c') (xs ++ ys).length (nums (xs ++ ys)) ∧ W.grownBy w' v.ownBlock ∧ ((Value.slice ao' n' c').ownBlock = v.ownBlock ∨ (Value.slice ao' n' c').ownBlock = some W.heap.size) := by
  cases ao with
  | none =>
    have hm0 : m = 0 := by
      rcases hl.2.2 with h0 | ⟨b, off, h0, _⟩
      · rw [hm, h0]; rfl
      · exact (Option.some_ne_none _ h0.symm).elim
    have hc0 := hno rfl
    subst hm0; subst hc0
    have hy : ys = [] := List.eq_nil_of_length_eq_zero hm.symm
    subst hy
    obtain ⟨ao, cp, rfl, h1, h2⟩ := hown.shape
    have hr : (Builtin.append_ #[30, 30] ty #[.slice ao xs.length cp, .slice none 0 0]).run Tryz.prog W = .ok (.slice ao xs.length cp) W := by
      obtain ⟨i8, hi, hz0, hz1, hz2⟩ := info_parts info8
      exact run_append_owned_none (P := Tryz.prog) (w := W) 0 30 ty 5 i8 1 Tryz.underlying30 hi _ _ _ hown
    refine ⟨ao, xs.length, cp, W, hr, by simp, ?_, World.grownBy.refl _ _, .inl rfl⟩
    simpa using hown
  | some ad =>
    have hcell : ∀ j u, (nums ys)[j]? = some u → W.cell? (ad.add j) = some u := by
      intro j u hu
      rcases hl.2.2 with h0 | ⟨b, off, h0, hc⟩
      · rw [h0] at hu; simp [nums] at hu
      · cases h0
        have hj : j < ys.length := by
          by_cases hj : j < ys.length
          · exact hj
          · rw [List.getElem?_eq_none (by rw [nums_length]; omega)] at hu; cases hu
        rw [nums_get ys j hj] at hu
        rw [← hu, ← hc j hj]
        congr 1
        unfold Addr.add; split <;> simp_all
    obtain ⟨v', w', hr, g1, g2, g3⟩ := run_appA okB W ty v xs.length (nums xs) hown ad m c (nums ys) (by rw [nums_length]; omega) hcell (nums_one ys) hn
    rw [← nums_append] at g1
    obtain ⟨ao', c', rfl, -⟩ := g1.shape
    have e : (xs ++ ys).length = xs.length + m := by rw [List.length_append, hm]
    exact ⟨ao', _, c', w', hr, e.symm, by rw [e]; exact g1, g2, g3⟩
theorem wpList_appL {W : World} {ops : Array Oper} {rest : List Oper} {o : Oper} {a : Act} {Q : Exit → Act → World → Prop} (hgd : o.guard = none) (s x : Operand)
    (ho : o.op = .call { callee := .builtin .append, args := #[s, x], argTypes := #[30, 30] }) (v : Value) (xs : List Nat) (hs : a.eval s = v) (hown : Rw W 5 1 v xs.length (nums xs)) (ao : Option Addr) (m c : Nat) (ys : List Nat) (hx : a.eval x = .slice ao m c) (hl : Lies W ao ys) (hm : m = ys.length) (hno : ao = none → c = 0) (hn : xs.length + m ≤ 100000000000)
    (h : ∀ ao' n' c' w', n' = (xs ++ ys).length → Rw w' 5 1 (.slice ao' n' c') (xs ++ ys).length (nums (xs ++ ys)) → W.grownBy w' v.ownBlock → ((Value.slice ao' n' c').ownBlock = v.ownBlock ∨ (Value.slice ao' n' c').ownBlock = some W.heap.size) → wpList Tryz.prog ops Q rest (a.put o.dst (.slice ao' n' c')) w') :
    wpList Tryz.prog ops Q (o :: rest) a W := by
  obtain ⟨ao', n', c', w', hrun, g0, g1, g2, g4⟩ := run_appL W o.type v xs hown ao m c ys hl hm hno hn
  refine wpList_plain hgd fun K hK => ?_
  unfold Oper.wp execOp
  simp only [ho, resolve, invoke, builtin, Sem.run_bind, Sem.run_pure, Result.andThen_ok, List.map_toArray, List.map_cons, List.map_nil, hs, hx, hrun]
  exact hK _ _ (h ao' n' c' w' g0 g1 g2 g4)
theorem lies_row {w : World} {B g n cap : Nat} {xs : List Nat} (hn : n = xs.length) (h : w.ownsRow B 5 1 (.slice (some ⟨g, 0, none⟩) n cap) n (nums xs)) (hb : ∀ c ∈ xs, c < 256) (hm : xs.length ≤ 9223372036854775807) : Lies w (some ⟨g, 0, none⟩) xs := by
  subst hn
  refine ⟨hb, hm, .inr ⟨g, 0, rfl, fun i hi => ?_⟩⟩
  rw [Nat.zero_add, h.cellAt i (by omega), nums_get xs i hi]
end Go.Proofs.YtkmmnocooibljaaGreatDoor
