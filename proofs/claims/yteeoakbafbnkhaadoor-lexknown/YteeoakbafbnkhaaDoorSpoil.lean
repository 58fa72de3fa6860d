/-
  CONTRACT of the kit's SpoilTokens; where an append lays its row.
-/
import Derived.Test.YteeoakbafbnkhaaDoorKit
namespace Go.Proofs.YteeoakbafbnkhaaDoor
open Go.RowKit
set_option linter.unusedVariables false

/-- Behind an append to a row of one's own the row lies where it lay, or in the next block. -/
theorem app_where (w : World) (base : Nat) (t ty e : TypeId) (i : TypeInfo) (z : Value) (ht : Tryd.prog.underlying t = some (.slice e)) (hi : Tryd.prog.info? e = some i) (hz : i.zero = some z)
    (v : Value) (n : Nat) (xs : List Value) (hown : w.ownsRow base e i.size v n xs)
    (a : Addr) (m c : Nat) (news : List Value) (hl : news.length = m * i.size) (hnews : ∀ j u, news[j]? = some u → w.cell? (a.add j) = some u) (h1 : ∀ u ∈ news, u.oneCell' = true)
    (hm : 0 < m) (h63 : n + m ≤ maxLen) (hbytes : (n + m) * i.bytes ≤ 140737488355328) (v' : Value) (w' : World)
    (hrun : (Builtin.append_ #[t, t] ty #[v, .slice (some a) m c]).run Tryd.prog w = .ok v' w') : v'.ownBlock = v.ownBlock ∨ v'.ownBlock = some w.heap.size := by
  have hsmall : n + m ≤ 9223372036854775807 := by simp only [maxLen] at h63; omega
  rcases hown.2 with ⟨rfl, rfl⟩ | ⟨g, cap, cur, rfl, hbg, hg, hnc, hcm, hcs, htake⟩
  · have hr := run_append_nil (P := Tryd.prog) w t ty e i z ht hi hz a m c news hl hnews (by omega) (by omega) (by have hb := hbytes; simp only [Nat.zero_add] at hb; omega)
    rw [hr] at hrun
    cases hrun
    exact .inr rfl
  · by_cases hroom : n + m ≤ cap
    · have hfit : n * i.size + news.length ≤ cur.size := by rw [hl, hcs, ← Nat.add_mul]; exact Nat.mul_le_mul_right _ hroom
      have hr := run_append_room (P := Tryd.prog) w t ty e i ht hi g n cap cur hg a m c news hl hnews h1 hroom hfit
      rw [hr] at hrun
      cases hrun
      exact .inl rfl
    · have holds : ∀ j u, xs[j]? = some u → w.cell? ((⟨g, 0, none⟩ : Addr).add j) = some u := hown.cells (g := g) rfl
      have hr := run_append_grow (P := Tryd.prog) w t ty e i z ht hi hz ⟨g, 0, none⟩ n cap xs hown.1 holds a m c news hl hnews (by omega) (by omega) (growslice_fits (by omega) hbytes)
      rw [hr] at hrun
      cases hrun
      exact .inr rfl
/-- 'l = append(l, t)' with the row's place told. -/
theorem wpList_appW {W : World} {ops : Array Oper} {rest : List Oper} {o : Oper} {a : Act} {Q : Exit → Act → World → Prop} (hgd : o.guard = none) (s x : Operand)
    (ho : o.op = .call { callee := .builtin .append, args := #[s, x], argTypes := #[28, 28] })
    (base : Nat) (v : Value) (n : Nat) (xs : List Value) (hs : a.eval s = v) (hown : W.ownsRow base 39 5 v n xs)
    (b : Nat) (hx : a.eval x = .slice (some ⟨b, 0, none⟩) 1 1) (cs : Array Value) (fr : Nat × Nat) (hb : W.heap[b]? = some (.cells cs 39 fr)) (hcs : cs.size = 5) (h1 : ∀ u ∈ cs.toList, u.oneCell' = true)
    (h63 : n + 1 ≤ 1048576) (hbase : base ≤ W.heap.size)
    (h : ∀ v' w' ys, w'.ownsRow base 39 5 v' (n + 1) ys → W.grownBy w' v.ownBlock → (v'.ownBlock = v.ownBlock ∨ v'.ownBlock = some W.heap.size) → wpList Tryd.prog ops Q rest (a.put o.dst v') w') :
    wpList Tryd.prog ops Q (o :: rest) a W := by
  obtain ⟨i8, hi, hz0, hz1, hz2⟩ := info_parts info35
  have hnews : ∀ j u, cs.toList[j]? = some u → W.cell? ((⟨b, 0, none⟩ : Addr).add j) = some u := by
    intro j u hu
    have hadd : (⟨b, 0, none⟩ : Addr).add j = ⟨b, j, none⟩ := by unfold Addr.add; split <;> simp_all
    rw [hadd, cell_of_row _ b j _ 39 _ hb]
    simpa using hu
  have hl : cs.toList.length = 1 * 5 := by rw [Array.length_toList, hcs]
  refine wpList_plain hgd fun K hK => ?_
  obtain ⟨v', w', hr, h2, h3, h4⟩ := run_append_own (P := Tryd.prog) W base 28 o.type 39 i8 _ 5 48 Tryd.underlying28 hi hz0 hz1 hz2 rfl (by omega) v n xs hown ⟨b, 0, none⟩ 1 1 cs.toList hl hnews h1 (by unfold maxLen; omega) (by omega) hbase
  have hw := app_where W base 28 o.type 39 i8 _ Tryd.underlying28 hi hz0 v n xs (by rw [hz1]; exact hown) ⟨b, 0, none⟩ 1 1 cs.toList (by rw [hz1]; exact hl) hnews h1 (by omega) (by unfold maxLen; omega) (by rw [hz2]; omega) v' w' hr
  unfold Oper.wp execOp
  simp only [ho, resolve, invoke, builtin, Sem.run_bind, Sem.run_pure, Result.andThen_ok, List.map_toArray, List.map_cons, List.map_nil, hs, hx, hr]
  exact hK _ _ (h v' w' _ h2 h3 hw)

theorem grown_refl (w : World) (o : Option Nat) : w.grownBy w o := ⟨rfl, rfl, rfl, Nat.le_refl _, fun _ _ _ => rfl⟩
theorem grown_trans {w w1 w2 : World} {o o' : Option Nat} (h1 : w.grownBy w1 o) (h2 : w1.grownBy w2 o') (ho : ∀ k, k < w.heap.size → some k = o' → some k = o) : w.grownBy w2 o :=
  ⟨h2.os.trans h1.os, h2.tape.trans h1.tape, h2.output.trans h1.output, Nat.le_trans h1.size h2.size, fun k hk hne => (h2.block k (Nat.lt_of_lt_of_le hk h1.size) (fun q => hne (ho k hk q))).trans (h1.block k hk hne)⟩
theorem stored5 {w : World} {B g n cap : Nat} {xs : List Value} (h : w.ownsRow B 39 5 (.slice (some ⟨g, 0, none⟩) n cap) n xs) (j0 j1 j2 j3 j4 : Nat) (b0 b1 b2 b3 b4 : Value) :
    ∃ ys, (((((w.setCell ⟨g, j0, none⟩ b0).setCell ⟨g, j1, none⟩ b1).setCell ⟨g, j2, none⟩ b2).setCell ⟨g, j3, none⟩ b3).setCell ⟨g, j4, none⟩ b4).ownsRow B 39 5 (.slice (some ⟨g, 0, none⟩) n cap) n ys ∧
      w.grownBy (((((w.setCell ⟨g, j0, none⟩ b0).setCell ⟨g, j1, none⟩ b1).setCell ⟨g, j2, none⟩ b2).setCell ⟨g, j3, none⟩ b3).setCell ⟨g, j4, none⟩ b4) (some g) := by
  obtain ⟨o0, g0⟩ := h.stored j0 b0
  obtain ⟨o1, g1⟩ := o0.stored j1 b1
  obtain ⟨o2, g2⟩ := o1.stored j2 b2
  obtain ⟨o3, g3⟩ := o2.stored j3 b3
  obtain ⟨o4, g4⟩ := o3.stored j4 b4
  exact ⟨_, o4, grown_trans (grown_trans (grown_trans (grown_trans g0 g1 fun _ _ q => q) g2 fun _ _ q => q) g3 fun _ _ q => q) g4 fun _ _ q => q⟩
def SpoilRel (w : World) (B g n cap : Nat) (i : Value) (wr : World) : Prop := ∃ (k : Nat) (xs : List Value), k ≤ n ∧ i = .int .i64 k ∧ wr.ownsRow B 39 5 (.slice (some ⟨g, 0, none⟩) n cap) n xs ∧ w.grownBy wr (some g)
def SpareRel (w : World) (B n : Nat) (o : Option Nat) (v i : Value) (wr : World) : Prop := ∃ (k : Nat) (xs : List Value), k ≤ 8 ∧ i = .int .i64 k ∧ wr.ownsRow B 39 5 v (n + k) xs ∧ w.grownBy wr o ∧ (∀ q, q < w.heap.size → v.ownBlock = some q → o = some q)
end Go.Proofs.YteeoakbafbnkhaaDoor
