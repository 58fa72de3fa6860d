/-
  CONTRACTS of the library's strings.Builder, as the landed lex uses it: WriteByte, WriteString; what they leave as it was.
-/
import Derived.Test.YteeoakbafbnkhaaDoorXSkip
import Derived.Lib.Builder
import Derived.Lib.AppendStr
import Derived.Lib.UnsafeStr
import Derived.Laws.Externs
namespace Go.Proofs.YteeoakbafbnkhaaDoor
open Go.RowKit
set_option linter.unusedVariables false

/-- Whatever is not the builder, and no row of bytes that may be written, is as it was. -/
def Kept0 (b : Nat) (w w' : World) : Prop := ∀ (k : Nat) (cs : Array Value) (t : TypeId) (fr : Nat × Nat), w.heap[k]? = some (.cells cs t fr) → k ≠ b → (t = 5 → fr ≠ (0, 0)) → w'.heap[k]? = some (.cells cs t fr)
theorem Kept0.refl (b : Nat) (w : World) : Kept0 b w w := fun _ _ _ _ h _ _ => h
theorem Kept0.trans {b : Nat} {a c d : World} (h : Kept0 b a c) (k : Kept0 b c d) : Kept0 b a d := fun i cs t fr hi hb ht => k i cs t fr (h i cs t fr hi hb ht) hb ht
theorem Kept0.of_below {b : Nat} {a c : World} (h : Below a.heap.size a c) : Kept0 b a c := fun i cs t fr hi _ _ => by rw [h.block i (Array.getElem?_eq_some_iff.1 hi).1]; exact hi
theorem Kept0.setCell (w : World) (b j : Nat) (v : Value) : Kept0 b w (w.setCell ⟨b, j, none⟩ v) := fun i cs t fr hi hb _ => by rw [Below.heap_setCell _ _ _ _ hb]; exact hi
theorem Kept0.grown {b B n : Nat} {w w' : World} {v : Value} {xs : List Value} (hown : w.ownsRow B 5 1 v n xs) (hg : w.grownBy w' v.ownBlock) : Kept0 b w w' := by
  intro i cs t fr hi hb ht
  rw [hg.block i (Array.getElem?_eq_some_iff.1 hi).1 ?_]
  · exact hi
  · rcases hown.2 with ⟨rfl, _⟩ | ⟨g, cap, cur, rfl, _, hgb, _⟩
    · simp [Value.ownBlock]
    · intro e
      obtain rfl : i = g := by simpa [Value.ownBlock] using e
      rw [hgb] at hi
      cases hi
      exact ht rfl rfl

theorem sizeSb : (Tryd.prog.info? 53).map (·.size) = some 2 := by kernel_rfl
theorem liesSb : liesAt Tryd.prog Tryd.prog.depth 53 (2 / Tryd.prog.cellsOf 53) 0 53 1 = true := by kernel_rfl
set_option maxHeartbeats 1000000 in
set_option maxRecDepth 100000 in
theorem bcheck_used (b : Nat) (w : World) (h0 : w.cell? ⟨b, 0, none⟩ = some (.pointer (some ⟨b, 0, none⟩))) :
    Calls Tryd.prog 47 #[.pointer (some ⟨b, 0, none⟩)] w fun e w' => e = .returned (.tuple #[]) ∧ w' = w := by
  obtain ⟨j, hj, _⟩ := Option.map_eq_some_iff.1 sizeSb
  go_enter Tryd.func47, Tryd.ntmps47
  go_wp2
  rw [Lib.run_neq_ptr_same w _ Tryd.underlying51 hj]
  go_wp2
  go_end0
  exact ⟨rfl, rfl⟩
set_option maxHeartbeats 1000000 in
set_option maxRecDepth 100000 in
theorem bcheck_fresh (b : Nat) (w : World) (h0 : w.cell? ⟨b, 0, none⟩ = some (.pointer none)) (hsh : w.shape? b = some (53, 2)) (hfz : w.frozen? ⟨b, 0, none⟩ = false) :
    Calls Tryd.prog 47 #[.pointer (some ⟨b, 0, none⟩)] w fun e w' => e = .returned (.tuple #[]) ∧ w' = w.setCell ⟨b, 0, none⟩ (.pointer (some ⟨b, 0, none⟩)) := by
  obtain ⟨j, hj, hjs⟩ := Option.map_eq_some_iff.1 sizeSb
  go_enter Tryd.func47, Tryd.ntmps47
  go_wp2
  rw [Lib.run_to_unsafe w ⟨b, 0, none⟩ Tryd.underlying51 Tryd.underlying82 hj (by rw [hjs]; decide) hsh (Nat.zero_lt_succ 1)]
  simp only [Result.andThen]
  rw [Oper.upon_value]
  go_wp2
  rw [run_callFunc_extern Tryd.func60 (by kernel_rfl) (by kernel_rfl) (by kernel_rfl) (e := Extern.AbiNoEscape.same) (by kernel_rfl)]
  rw [Lib.run_noEscape]
  simp only [Result.andThen]
  rw [Oper.upon_value]
  go_wp2
  rw [Lib.run_from_unsafe w ⟨b, 0, none⟩ Tryd.underlying82 Tryd.underlying51 hj hsh liesSb]
  simp only [Result.andThen]
  rw [Oper.upon_value]
  go_wp2
  go_end0
  exact ⟨rfl, rfl⟩
theorem bcheck_any (B b : Nat) (bs : List Value) (w : World) (h : Lib.IsBuilder 53 5 B b bs w) :
    Calls Tryd.prog 47 #[.pointer (some ⟨b, 0, none⟩)] w fun e w' => e = .returned (.tuple #[]) ∧ Lib.BuilderAt 53 5 B b (.pointer (some ⟨b, 0, none⟩)) bs w' ∧ Below B w w' ∧ Kept0 b w w' := by
  rcases h with h | h
  · refine (bcheck_fresh b w h.cell0 h.shape h.frozen0).mono ?_
    rintro e w' ⟨rfl, rfl⟩
    exact ⟨rfl, h.used _, (Below.refl B w).setCell (p := ⟨b, 0, none⟩) h.1 _, Kept0.setCell _ _ _ _⟩
  · refine (bcheck_used b w h.cell0).mono ?_
    rintro e w' ⟨rfl, rfl⟩
    exact ⟨rfl, h, Below.refl B _, Kept0.refl _ _⟩
/-- What a write leaves. -/
def Wrote (B b : Nat) (xs : List Nat) (w w' : World) : Prop := Lib.IsBuilder 53 5 B b (nums xs) w' ∧ Below B w w' ∧ Kept0 b w w'
set_option maxHeartbeats 2000000 in
set_option maxRecDepth 100000 in
theorem bbyte_any (B b : Nat) (xs : List Nat) (c : Nat) (y : Int) (hy : y = c) (w : World) (h : Lib.IsBuilder 53 5 B b (nums xs) w) (hlen : xs.length + 1 ≤ 1048576) (hBw : B ≤ w.heap.size) :
    Calls Tryd.prog 31 #[.pointer (some ⟨b, 0, none⟩), .int .u8 y] w fun e w' => e = .returned .nilIface ∧ Wrote B b (xs ++ [c]) w w' := by
  subst hy
  obtain ⟨i0, hi, hz0, hz1, hz2⟩ := info_parts info8
  go_enter Tryd.func31, Tryd.ntmps31
  go_wp2_with fail
  refine (bcheck_any B b (nums xs) _ h).mono ?_
  rintro e w1 ⟨rfl, h1, hb1, hk1⟩
  obtain ⟨hB, v, hbk, hown, hne⟩ := h1
  have c0 : w1.cell? ⟨b, 0, none⟩ = some (.pointer (some ⟨b, 0, none⟩)) := by rw [Lib.cell_of_heap hbk]; rfl
  have c1 : w1.cell? ⟨b, 1, none⟩ = some v := by rw [Lib.cell_of_heap hbk]; rfl
  have hsz : B ≤ w1.heap.size := Nat.le_trans hBw hb1.size
  rw [nums_length] at hown
  have HOW : Hid (w1.ownsRow B 5 1 v xs.length (nums xs)) := hown
  have HK1 : Hid (Kept0 b w w1) := hk1
  have HB1 : Hid (Below B w w1) := hb1
  have HBK : Hid (w1.heap[b]? = some (.cells #[.pointer (some ⟨b, 0, none⟩), v] 53 (0, 0))) := hbk
  have HNE : Hid (v.ownBlock ≠ some b) := hne
  clear hown hk1 hb1 hbk hne h
  go_wp2_with (at_builtin; refine wpList_append_own _ rfl _ _ 27 rfl B 5 i0 (.int .u8 0) 1 1 Tryd.underlying27 hi hz0 hz1 hz2 rfl (by decide) _ _ _ rfl (HOW.out.alloc _) ⟨w1.heap.size, 0, none⟩ 1 1 [.int .u8 (c : Int)] rfl rfl ?c1 ?c2 ?c3 ?c4 ?c5 ?_)
  case c1 =>
    intro j u hj
    match j, hj with
    | 0, hj => simp at hj; subst hj; simp [Addr.add]
  case c2 => intro u hu; simp at hu; subst hu; rfl
  case c3 => unfold maxLen; omega
  case c4 => omega
  case c5 => simp; omega
  intro v' w2 hown' hgrow _
  have hlt : b < w1.heap.size := (Array.getElem?_eq_some_iff.1 HBK.out).1
  have hb2 : w2.heap[b]? = some (.cells #[.pointer (some ⟨b, 0, none⟩), v] 53 (0, 0)) := by
    rw [hgrow.block b (by simp; omega) (fun e => HNE.out e.symm), Lib.alloc_old w1 _ b hlt]
    exact HBK.out
  have d0 : w2.cell? ⟨b, 0, none⟩ = some (.pointer (some ⟨b, 0, none⟩)) := by rw [Lib.cell_of_heap hb2]; rfl
  have d1 : w2.cell? ⟨b, 1, none⟩ = some v := by rw [Lib.cell_of_heap hb2]; rfl
  have f1 : w2.frozen? ⟨b, 1, none⟩ = false := Lib.frozen_of_heap hb2 1
  obtain ⟨g, cap, rfl⟩ : ∃ g cap, v' = .slice (some ⟨g, 0, none⟩) (xs.length + 1) cap := by
    rcases hown'.2 with ⟨_, h0⟩ | ⟨g, cap, cur, hv, _⟩
    · omega
    · exact ⟨g, cap, hv⟩
  have HO2 : Hid _ := hown'
  have HG2 : Hid _ := hgrow
  have HB2 : Hid (w2.heap[b]? = some (.cells #[.pointer (some ⟨b, 0, none⟩), v] 53 (0, 0))) := hb2
  clear hown' hgrow hb2
  go_wp2
  go_ret
  refine ⟨rfl, .inr ?_, ?_, ?_⟩
  · refine Lib.BuilderAt.put (T := 53) (e := 5) hB HB2.out (bs' := nums (xs ++ [c])) ?_ (by decide)
    rw [nums_length, nums_append, List.length_append]; exact HO2.out
  · exact ((HB1.out.alloc hsz _).grown HG2.out (by simp; omega) (fun k hk => (HOW.out.lt k hk).1)).setCell (p := ⟨b, 1, none⟩) hB _
  · exact ((HK1.out.trans (Kept0.of_below ((Below.refl _ _).alloc (Nat.le_refl _) _))).trans (Kept0.grown (HOW.out.alloc _) HG2.out)).trans (Kept0.setCell _ _ _ _)
set_option maxHeartbeats 2000000 in
set_option maxRecDepth 100000 in
theorem bstring_any (B b : Nat) (xs : List Nat) (s : ByteArray) (w : World) (h : Lib.IsBuilder 53 5 B b (nums xs) w) (hlen : xs.length + s.size ≤ 1048576) (hBw : B ≤ w.heap.size) :
    Calls Tryd.prog 32 #[.pointer (some ⟨b, 0, none⟩), .string s] w fun e w' => e = .returned (.tuple #[.int .i64 (s.size : Int), .nilIface]) ∧ Wrote B b (xs ++ bytesN s) w w' := by
  obtain ⟨i0, hi, hz0, hz1, hz2⟩ := info_parts info8
  go_enter Tryd.func32, Tryd.ntmps32
  go_wp2_with fail
  refine (bcheck_any B b (nums xs) _ h).mono ?_
  rintro e w1 ⟨rfl, h1, hb1, hk1⟩
  obtain ⟨hB, v, hbk, hown, hne⟩ := h1
  have c0 : w1.cell? ⟨b, 0, none⟩ = some (.pointer (some ⟨b, 0, none⟩)) := by rw [Lib.cell_of_heap hbk]; rfl
  have c1 : w1.cell? ⟨b, 1, none⟩ = some v := by rw [Lib.cell_of_heap hbk]; rfl
  have hsz : B ≤ w1.heap.size := Nat.le_trans hBw hb1.size
  rw [nums_length] at hown
  have HOW : Hid (w1.ownsRow B 5 1 v xs.length (nums xs)) := hown
  have HK1 : Hid (Kept0 b w w1) := hk1
  have HB1 : Hid (Below B w w1) := hb1
  have HBK : Hid (w1.heap[b]? = some (.cells #[.pointer (some ⟨b, 0, none⟩), v] 53 (0, 0))) := hbk
  have HNE : Hid (v.ownBlock ≠ some b) := hne
  clear hown hk1 hb1 hbk hne h
  go_wp2_with (at_builtin; refine Lib.wpList_append_own_string _ rfl _ _ 27 9 rfl B 5 i0 Tryd.underlying27 Tryd.underlying9 hi hz0 hz1 hz2 _ _ _ rfl HOW.out s rfl ?c3 ?c4 ?c5 ?_)
  case c3 => unfold maxLen; omega
  case c4 => omega
  case c5 => exact hsz
  intro v' w2 hown' hgrow _
  have hlt : b < w1.heap.size := (Array.getElem?_eq_some_iff.1 HBK.out).1
  have hb2 : w2.heap[b]? = some (.cells #[.pointer (some ⟨b, 0, none⟩), v] 53 (0, 0)) := by
    rw [hgrow.block b hlt (fun e => HNE.out e.symm)]
    exact HBK.out
  have d0 : w2.cell? ⟨b, 0, none⟩ = some (.pointer (some ⟨b, 0, none⟩)) := by rw [Lib.cell_of_heap hb2]; rfl
  have d1 : w2.cell? ⟨b, 1, none⟩ = some v := by rw [Lib.cell_of_heap hb2]; rfl
  have f1 : w2.frozen? ⟨b, 1, none⟩ = false := Lib.frozen_of_heap hb2 1
  obtain ⟨ao, n', cap, rfl⟩ : ∃ ao n' cap, v' = .slice ao n' cap := by
    rcases hown'.2 with ⟨hv, _⟩ | ⟨g, cap, cur, hv, _⟩
    · exact ⟨_, _, _, hv⟩
    · exact ⟨_, _, _, hv⟩
  have HO2 : Hid _ := hown'
  have HG2 : Hid _ := hgrow
  have HB2 : Hid (w2.heap[b]? = some (.cells #[.pointer (some ⟨b, 0, none⟩), v] 53 (0, 0))) := hb2
  clear hown' hgrow hb2
  go_wp2
  go_ret2
  refine ⟨rfl, .inr ?_, ?_, ?_⟩
  · refine Lib.BuilderAt.put (T := 53) (e := 5) hB HB2.out (bs' := nums (xs ++ bytesN s)) ?_ (by decide)
    have e1 : nums (bytesN s) = Lib.strCells s := by unfold nums bytesN Lib.strCells; rw [List.map_map]; rfl
    rw [nums_length, nums_append, List.length_append, bytesN_length, e1]; exact HO2.out
  · exact (HB1.out.grown HG2.out hsz (fun k hk => (HOW.out.lt k hk).1)).setCell (p := ⟨b, 1, none⟩) hB _
  · exact (HK1.out.trans (Kept0.grown HOW.out HG2.out)).trans (Kept0.setCell _ _ _ _)
theorem numsBytes (xs : List Nat) (h : ∀ c ∈ xs, c < 256) : nums xs = Lib.byteCells (strN xs).data.toList := by
  have e : nums xs = nums (bytesN (strN xs)) := by rw [bytesN_strN xs h]
  rw [e]
  unfold nums bytesN Lib.byteCells; rw [List.map_map]; rfl
theorem bout_any (B b : Nat) (xs : List Nat) (hx : ∀ c ∈ xs, c < 256) (w : World) (h : Lib.IsBuilder 53 5 B b (nums xs) w) (hBw : B ≤ w.heap.size) :
    Calls Tryd.prog 34 #[.pointer (some ⟨b, 0, none⟩)] w fun e w' => e = .returned (.string (strN xs)) ∧ Below B w w' := by
  rw [numsBytes xs hx] at h
  exact Any.Builder_String_any Tryd.lays169 Tryd.Builder_Extra_169 B b (strN xs).data.toList w h hBw
end Go.Proofs.YteeoakbafbnkhaaDoor
