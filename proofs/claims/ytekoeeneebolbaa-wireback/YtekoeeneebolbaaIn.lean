/-
  A SLICE OF BYTES THAT CAME IN, as the bytes that lie there; 'append' of such bytes to a row of the call's own; small laws on worlds.
-/
import Derived.Test.YtekoeeneebolbaaWorks
import Derived.Laws.AppendOwnNone
import Derived.ProofKit
import Derived.OpenShut
namespace Go.Proofs.Ytekoeeneebolbaa
open Go.RowKit

/-- What the walk is told of a slice of bytes that came in: it is nil; or it leads to a row of 'cap' cells, the numbers 'zs' (the first 'len' are its elements), each fitting its kind. -/
def IsRow (k : IntKind) (w : World) (a : Option Addr) (len cap : Nat) (zs : List Int) : Prop :=
  (a = none ∧ len = 0 ∧ cap = 0 ∧ zs = []) ∨
  ∃ x, a = some x ∧ len ≤ cap ∧ cap ≤ maxLen ∧ zs.length = cap ∧ (∀ i, i < zs.length → w.cell? (x.add i) = some (.int k (zs.getD i 0))) ∧ ∀ n ∈ zs, (Lit.int k n).wf = true

theorem add_at (b off i : Nat) : (⟨b, off, none⟩ : Addr).add i = ⟨b, off + i, none⟩ := by unfold Addr.add; split <;> simp_all

/-- Its elements. -/
def bytesOf (zs : List Int) (len : Nat) : List Nat := (zs.take len).map Int.toNat

theorem byte_of {z : Int} (h : (Lit.int .u8 z).wf = true) : 0 ≤ z ∧ z ≤ 255 := bounds_u8 h

/-- What a row gives. -/
theorem row_gives {w : World} {a : Option Addr} {len cap : Nat} {zs : List Int} (h : IsRow .u8 w a len cap zs) :
    Lies w a (bytesOf zs len) ∧ (bytesOf zs len).length = len ∧ (a = none → len = 0 ∧ cap = 0) ∧ len ≤ cap ∧ cap ≤ maxLen ∧ (1 ≤ len → ∃ b off, a = some ⟨b, off, none⟩ ∧ b < w.heap.size) := by
  rcases h with ⟨rfl, rfl, rfl, rfl⟩ | ⟨x, rfl, hl, hm, hz, hc, hwf⟩
  · exact ⟨⟨by simp [bytesOf], by simp [bytesOf], .inl rfl⟩, rfl, fun _ => ⟨rfl, rfl⟩, Nat.le_refl _, by unfold maxLen; omega, fun h => by omega⟩
  · have hlen : (bytesOf zs len).length = len := by simp [bytesOf]; omega
    have hform : 1 ≤ len → ∃ b off, x = ⟨b, off, none⟩ ∧ b < w.heap.size := by
      intro h1
      obtain ⟨b, off, spot⟩ := x
      have h0 := hc 0 (by omega)
      have hs : spot = none := by simpa [Addr.add] using World.cell?_spot h0
      subst hs
      exact ⟨b, off, rfl, by simpa [Addr.add] using World.block_lt_of_cell? w _ h0⟩
    refine ⟨⟨?_, by rw [hlen]; unfold maxLen at hm; omega, ?_⟩, hlen, fun h => (Option.some_ne_none _ h).elim, hl, hm, fun h1 => ?_⟩
    · intro c hcm
      simp only [bytesOf, List.mem_map] at hcm
      obtain ⟨z, hz', rfl⟩ := hcm
      have := byte_of (hwf z (List.mem_of_mem_take hz'))
      omega
    · by_cases h0 : len = 0
      · left; subst h0; simp [bytesOf]
      · right
        obtain ⟨b, off, rfl, _⟩ := hform (by omega)
        refine ⟨b, off, rfl, fun i hi => ?_⟩
        rw [hlen] at hi
        have h := hc i (by omega)
        have hz' := byte_of (hwf (zs.getD i 0) (by simp [List.getD, show i < zs.length by omega]))
        have e : (((bytesOf zs len).getD i 0 : Nat) : Int) = zs.getD i 0 := by
          have : (bytesOf zs len).getD i 0 = (zs.getD i 0).toNat := by
            simp [bytesOf, List.getD, hi, show i < zs.length by omega]
          rw [this]; omega
        rw [e, ← h, add_at]
    · obtain ⟨b, off, rfl, hb⟩ := hform h1
      exact ⟨b, off, rfl, hb⟩

theorem lies_kept {w w' : World} {B : Nat} {a : Option Addr} {xs : List Nat} (h : Lies w a xs) (hb : Below B w w') (hg : ∀ b off, a = some ⟨b, off, none⟩ → 1 ≤ xs.length → b < B) : Lies w' a xs := by
  obtain ⟨h1, h2, h3⟩ := h
  refine ⟨h1, h2, ?_⟩
  by_cases h0 : xs = []
  · exact .inl h0
  · rcases h3 with h3 | ⟨b, o, rfl, hc⟩
    · exact (h0 h3).elim
    · refine .inr ⟨b, o, rfl, fun i hi => ?_⟩
      exact (hb.cell (p := ⟨b, o + i, none⟩) (hg b o rfl (List.length_pos_iff.2 h0))).trans (hc i hi)

theorem below_chain {B : Nat} {w w1 w2 : World} (h1 : Below B w w1) (h2 : Below w1.heap.size w1 w2) (hB : B ≤ w.heap.size) : Below B w w2 :=
  h1.trans (h2.mono (Nat.le_trans hB h1.size))
theorem below_drawn {B : Nat} {w w1 : World} (h : Below B w w1) (n : Nat) : Below B w (w1.drewN n) := ⟨h.os, h.tape, h.output, h.size, h.block⟩
theorem below_chain2 {w w1 w2 w3 : World} (h1 : Below w.heap.size w w1) (h2 : Below w1.heap.size w1 w2) (h3 : Below w2.heap.size w2 w3) : Below w.heap.size w w3 :=
  below_chain (below_chain h1 h2 (Nat.le_refl _)) h3 (Nat.le_refl _)

theorem nums_append (xs ys : List Nat) : nums (xs ++ ys) = nums xs ++ nums ys := by simp [nums]

/-- 'b = append(b, ys...)', b a row of the call's own, ys whatever lies somewhere. -/
theorem wpList_app {w : World} {ops : Array Oper} {rest : List Oper} {o : Oper} {a : Act} {Q : Exit → Act → World → Prop} (hgd : o.guard = none) (s x : Operand)
    (ho : o.op = .call { callee := .builtin .append, args := #[s, x], argTypes := #[23, 23] })
    (base : Nat) (v : Value) (n : Nat) (xs : List Nat) (hs : a.eval s = v) (hown : w.ownsRow base 5 1 v n (nums xs))
    (ao : Option Addr) (m c : Nat) (ys : List Nat) (hx : a.eval x = .slice ao m c) (hl : Lies w ao ys) (hm : m = ys.length) (hno : ao = none → c = 0)
    (h63 : n + m ≤ 140737488355328) (hbase : base ≤ w.heap.size)
    (h : ∀ v' w', w'.ownsRow base 5 1 v' (n + m) (nums (xs ++ ys)) → Below base w w' → wpList Try.prog ops Q rest (a.put o.dst v') w') : wpList Try.prog ops Q (o :: rest) a w := by
  obtain ⟨i8, hi, hz0, hz1, hz2⟩ := info_parts info8
  have hb : ∀ w', w.grownBy w' v.ownBlock → Below base w w' := fun w' hg => (Below.refl _ _).grown hg hbase fun k hk => (hown.lt k hk).1
  cases ao with
  | none =>
    have hm0 : m = 0 := by
      rcases hl.2.2 with h0 | ⟨b, off, h0, _⟩
      · rw [hm, h0]; rfl
      · exact (Option.some_ne_none _ h0.symm).elim
    have hc0 := hno rfl
    subst hm0; subst hc0
    have hy : ys = [] := List.eq_nil_of_length_eq_zero hm.symm
    subst hy
    refine wpList_append_own_none hgd s x 23 ho base 5 i8 1 Try.underlying23 hi v n (nums xs) hs hown hx ?_
    exact h v w (by simpa using hown) (Below.refl _ _)
  | some ad =>
    refine wpList_append_own w hgd s x 23 ho base 5 i8 (.int .u8 0) 1 1 Try.underlying23 hi hz0 hz1 hz2 rfl (by omega) v n (nums xs) hs hown ad m c (nums ys) hx (by rw [nums_length]; omega) ?_ ?_ (by unfold maxLen; omega) (by omega) hbase ?_
    · intro j u hu
      rcases hl.2.2 with h0 | ⟨b, off, h0, hc⟩
      · rw [h0] at hu; simp [nums] at hu
      · cases h0
        have hj : j < ys.length := by
          by_cases hj : j < ys.length
          · exact hj
          · rw [List.getElem?_eq_none (by rw [nums_length]; omega)] at hu; cases hu
        rw [nums_get ys j hj] at hu
        rw [← hu, ← hc j hj, add_at]
    · intro u hu
      simp only [nums, List.mem_map] at hu
      obtain ⟨c', _, rfl⟩ := hu
      rfl
    · intro v' w' h1 h2 _
      rw [← nums_append] at h1
      exact h v' w' h1 (hb w' h2)
end Go.Proofs.Ytekoeeneebolbaa
