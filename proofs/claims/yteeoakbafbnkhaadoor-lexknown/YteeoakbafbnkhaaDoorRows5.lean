/-
  ROWS: bytes and tokens that a call makes; append of one.
-/
import Derived.Test.YteeoakbafbnkhaaDoorNumber
import Derived.Test.YteeoakbafbnkhaaDoorEscape
import Derived.Laws.BytesArg
namespace Go.Proofs.YteeoakbafbnkhaaDoor
open Go.RowKit
set_option linter.unusedVariables false

def nums (xs : List Nat) : List Value := xs.map fun (c : Nat) => Value.int .u8 (c : Int)
theorem nums_length (xs : List Nat) : (nums xs).length = xs.length := by simp [nums]
theorem nums_append (xs ys : List Nat) : nums (xs ++ ys) = nums xs ++ nums ys := by simp [nums]
theorem info8 : (Tryd.prog.info? 5).map (fun i => (i.zero, i.size, i.bytes)) = some (some (.int .u8 0), 1, 1) := by kernel_rfl
theorem info_parts {t : TypeId} {z : Option Value} {s b : Nat} (h : (Tryd.prog.info? t).map (fun i => (i.zero, i.size, i.bytes)) = some (z, s, b)) : ∃ i, Tryd.prog.info? t = some i ∧ i.zero = z ∧ i.size = s ∧ i.bytes = b := by
  cases hi : Tryd.prog.info? t with
  | none => rw [hi] at h; simp at h
  | some i => rw [hi] at h; simp at h; exact ⟨i, rfl, h.1, h.2.1, h.2.2⟩

/-- 'b = append(b, c)': one byte, laid in a new block first. -/
theorem wpList_app1 {w : World} {ops : Array Oper} {rest : List Oper} {o : Oper} {a : Act} {Q : Exit → Act → World → Prop} (hgd : o.guard = none) (s x : Operand)
    (ho : o.op = .call { callee := .builtin .append, args := #[s, x], argTypes := #[27, 27] })
    (base : Nat) (v : Value) (n : Nat) (xs : List Nat) (hs : a.eval s = v) (hown : w.ownsRow base 5 1 v n (nums xs)) (z : Int) (c : Nat) (hz : z = c)
    (hx : a.eval x = .slice (some ⟨w.heap.size, 0, none⟩) 1 1)
    (h63 : n + 1 ≤ 140737488355328) (hbase : base ≤ w.heap.size)
    (h : ∀ v' w', w'.ownsRow base 5 1 v' (n + 1) (nums (xs ++ [c])) → Below base w w' → wpList Tryd.prog ops Q rest (a.put o.dst v') w') :
    wpList Tryd.prog ops Q (o :: rest) a (w.alloc (.cells #[.int .u8 z] 5)) := by
  subst hz
  obtain ⟨i8, hi, hz0, hz1, hz2⟩ := info_parts info8
  have hown2 := hown.alloc (.cells #[.int .u8 (c : Int)] 5)
  have hsz : w.heap.size ≤ (w.alloc (.cells #[.int .u8 (c : Int)] 5)).heap.size := by show _ ≤ (w.heap.push _).size; rw [Array.size_push]; omega
  have hbase2 : base ≤ (w.alloc (.cells #[.int .u8 (c : Int)] 5)).heap.size := Nat.le_trans hbase hsz
  refine wpList_append_own _ hgd s x 27 ho base 5 i8 (.int .u8 0) 1 1 Tryd.underlying27 hi hz0 hz1 hz2 rfl (by omega) v n (nums xs) hs hown2 ⟨w.heap.size, 0, none⟩ 1 1 (nums [c]) hx (by rw [nums_length]; rfl) ?_ ?_ (by unfold maxLen; omega) (by omega) hbase2 ?_
  · intro j u hu
    have hj : j = 0 := by
      by_cases hj : j = 0
      · exact hj
      · rw [List.getElem?_eq_none (by rw [nums_length]; simp; omega)] at hu; cases hu
    subst hj
    rw [← hu]
    exact cell_of_row _ w.heap.size 0 _ 5 _ (heap_alloc_new w _)
  · intro u hu
    simp [nums] at hu; subst hu; rfl
  · intro v' w' h1 h2 _
    rw [← nums_append] at h1
    exact h v' w' h1 (((Below.refl _ _).alloc hbase _).grown h2 hbase2 fun k hk => (hown.lt k hk).1)

/-! ### A block of five cells, written over -/
theorem heap_set (w : World) (g i : Nat) (cs : Array Value) (t : TypeId) (fr : Nat × Nat) (b : Value) (h : w.heap[g]? = some (.cells cs t fr)) :
    (w.setCell ⟨g, i, none⟩ b).heap[g]? = some (.cells (cs.setIfInBounds i b) t fr) := by
  simp [World.setCell, Array.getElem?_modify, h]
theorem set5_block (w : World) (g : Nat) (a0 a1 a2 a3 a4 b0 b1 b2 b3 b4 : Value) (t : TypeId) (fr : Nat × Nat) (h : w.heap[g]? = some (.cells #[a0, a1, a2, a3, a4] t fr)) :
    (((((w.setCell ⟨g, 0, none⟩ b0).setCell ⟨g, 1, none⟩ b1).setCell ⟨g, 2, none⟩ b2).setCell ⟨g, 3, none⟩ b3).setCell ⟨g, 4, none⟩ b4).heap[g]? = some (.cells #[b0, b1, b2, b3, b4] t fr) := by
  have h0 := heap_set w g 0 _ t fr b0 h
  have h1 := heap_set _ g 1 _ t fr b1 h0
  have h2 := heap_set _ g 2 _ t fr b2 h1
  have h3 := heap_set _ g 3 _ t fr b3 h2
  have h4 := heap_set _ g 4 _ t fr b4 h3
  rw [h4]
  rfl
theorem set5_below {w0 w : World} {g B : Nat} {b0 b1 b2 b3 b4 : Value} (h : Below B w0 w) (hg : B ≤ g) :
    Below B w0 (((((w.setCell ⟨g, 0, none⟩ b0).setCell ⟨g, 1, none⟩ b1).setCell ⟨g, 2, none⟩ b2).setCell ⟨g, 3, none⟩ b3).setCell ⟨g, 4, none⟩ b4) :=
  ((((h.setCell hg _).setCell hg _).setCell hg _).setCell hg _).setCell hg _

/-! ### Bytes as a string -/
def strN (xs : List Nat) : ByteArray := strOfNums (xs.map fun (c : Nat) => (c : Int))
theorem nums_get (xs : List Nat) (i : Nat) (h : i < xs.length) : (nums xs)[i]? = some (.int .u8 ((xs.getD i 0 : Nat) : Int)) := by
  simp [nums, List.getD, h]
theorem conv_own {w : World} {B : Nat} {v : Value} {xs : List Nat} (own : w.ownsRow B 5 1 v xs.length (nums xs)) :
    (convert 27 9 v).run Tryd.prog w = .ok (.string (strN xs)) w := by
  have own' := own
  rcases own.2 with ⟨rfl, h0⟩ | ⟨g, cap, cur, rfl, hb, hg, hle, hm, hs, ht⟩
  · have hx : xs = [] := List.eq_nil_of_length_eq_zero h0
    subst hx
    exact run_convert_bytes_nil w 27 5 Tryd.underlying27 Tryd.underlying5 0 0 9 Tryd.underlying9
  · refine run_convert_bytes_arg w 27 5 Tryd.underlying27 Tryd.underlying5 g 0 _ cap (xs.map fun (c : Nat) => (c : Int)) (by simp) (fun i hi => ?_) 9 Tryd.underlying9
    rw [Nat.zero_add, own'.cellAt i (by omega), nums_get xs i hi]
    simp [List.getD, hi]
theorem bytesN_strN (xs : List Nat) (h : ∀ c ∈ xs, c < 256) : bytesN (strN xs) = xs := by
  unfold bytesN strN
  rw [strOfNums_data, List.map_map, List.map_map]
  conv => rhs; rw [← List.map_id xs]
  apply List.map_congr_left
  intro c hc
  have := h c hc
  simp
  omega
end Go.Proofs.YteeoakbafbnkhaaDoor
