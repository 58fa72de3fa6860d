/-
  THE LAST LOCAL WITH A NAME: slices.Backward over locals, and the landed 'last' by it.
-/
import Derived.Test.YtnnajgbkpilaaaaBase
import Derived.RangeFuncBox
import Derived.RangeFuncNested
import Derived.BigRegion
import Derived.Lib.Hide
import Derived.Shelf.Abstract
import Derived.LoopNIn
import Derived.LoopIn
import Derived.TacticsInMore
import Derived.OwnWalkIn
import Derived.RangeFuncCalls
import Derived.RangeFuncLeaves
namespace Go.Proofs.Ytnnajgbkpilaaaa
open Go.RowKit Go.Shelf
set_option linter.unusedVariables false
attribute [local go_sem] Oper.semAt_some

def dL : L := ⟨empt, 0, 0⟩
def lV (x : L) : Value := .agg #[.string x.name, .int .i64 (x.slot : Int)]
abbrev XL := Nat × L
/-- The last k locals with their places, the last one first. -/
def bw (ls : List L) (k : Nat) : List XL := (List.range k).map fun j => (ls.length - 1 - j, ls.getD (ls.length - 1 - j) dL)
theorem bw_succ (ls : List L) (k : Nat) : bw ls (k + 1) = bw ls k ++ [(ls.length - 1 - k, ls.getD (ls.length - 1 - k) dL)] := by simp [bw, List.range_succ]
theorem bw_length (ls : List L) (k : Nat) : (bw ls k).length = k := by simp [bw]
theorem bw_prefix (ls : List L) (k n : Nat) (h : k ≤ n) : bw ls k <+: bw ls n := by
  obtain ⟨d, rfl⟩ := Nat.exists_eq_add_of_le h
  induction d with
  | zero => exact List.prefix_refl _
  | succ d ih => exact (ih (by omega)).trans ⟨_, (bw_succ ls (k + d)).symm⟩
theorem bw_all (ls : List L) : (bw ls ls.length).map (·.2) = ls.reverse := by
  apply List.ext_getElem?
  intro i
  by_cases hi : i < ls.length
  · simp only [bw, List.map_map, List.getElem?_map, List.getElem?_range hi, Option.map_some, Function.comp]
    rw [List.getElem?_reverse hi, List.getD_eq_getElem?_getD, List.getElem?_eq_getElem (by omega)]
    rfl
  · rw [List.getElem?_eq_none (by simp [bw]; omega), List.getElem?_eq_none (by simp; omega)]
theorem bw_found {ls : List L} {n : ByteArray} {pre : List XL} {x : XL} (hp : pre ++ [x] <+: bw ls ls.length) (h1 : ∀ y ∈ pre, y.2.name ≠ n) (h2 : x.2.name = n) : lastN n ls = some x.2 := by
  obtain ⟨r, hr⟩ := hp
  unfold lastN
  rw [← bw_all, ← hr, List.append_assoc, List.map_append, List.find?_append]
  have e : (pre.map (·.2)).find? (fun x => decide (x.name = n)) = none := by
    rw [List.find?_eq_none]
    intro y hy
    obtain ⟨z, hz, rfl⟩ := List.mem_map.1 hy
    simpa using h1 z hz
  rw [e]
  simp [h2]
theorem bw_none {ls : List L} {n : ByteArray} (h1 : ∀ y ∈ bw ls ls.length, y.2.name ≠ n) : lastN n ls = none := by
  unfold lastN
  rw [← bw_all, List.find?_eq_none]
  intro y hy
  obtain ⟨z, hz, rfl⟩ := List.mem_map.1 hy
  simpa using h1 z hz
/-- Locals lie where a slice leads. -/
def LsIn (W : World) (n₀ : Nat) (ao : Option Addr) (ls : List L) : Prop := ls = [] ∨ ∃ b o, ao = some ⟨b, o, none⟩ ∧ b < n₀ ∧ ∀ i, i < ls.length * 2 → W.cell? ⟨b, o + i, none⟩ = (ls.flatMap cL)[i]?
theorem cL_get (ls : List L) (k j : Nat) (hk : k < ls.length) (hj : j < 2) : (ls.flatMap cL)[k * 2 + j]? = (cL ls[k])[j]? := by
  induction ls generalizing k with
  | nil => simp at hk
  | cons t r ih =>
    have e : (t :: r).flatMap cL = cL t ++ r.flatMap cL := by simp
    have hl : (cL t).length = 2 := rfl
    cases k with
    | zero => rw [e, Nat.zero_mul, Nat.zero_add, List.getElem?_append_left (by omega)]; rfl
    | succ k =>
      rw [e, List.getElem?_append_right (by omega), hl, show (k + 1) * 2 + j - 2 = k * 2 + j by omega, ih k (by simpa using hk)]; rfl
theorem ls_cells {W : World} {b o : Nat} {ls : List L} (h : ∀ i, i < ls.length * 2 → W.cell? ⟨b, o + i, none⟩ = (ls.flatMap cL)[i]?) (k : Nat) (hk : k < ls.length) :
    W.cell? ⟨b, o + k * 2, none⟩ = some (.string (ls.getD k dL).name) ∧ W.cell? ⟨b, o + k * 2 + 1, none⟩ = some (.int .i64 ((ls.getD k dL).slot : Int)) := by
  have e1 : ls.getD k dL = ls[k] := by rw [List.getD_eq_getElem?_getD, List.getElem?_eq_getElem hk]; rfl
  rw [e1]
  have h0 := h (k * 2) (by omega)
  have h1 := h (k * 2 + 1) (by omega)
  rw [show k * 2 = k * 2 + 0 from rfl, cL_get ls k 0 hk (by omega)] at h0
  rw [cL_get ls k 1 hk (by omega), ← Nat.add_assoc] at h1
  exact ⟨h0, h1⟩
def BwRel (ls : List L) (n₀ : Nat) (J : List XL → World → Prop) (W : World) (i : Value) (wr : World) : Prop :=
  ∃ k : Nat, k ≤ ls.length ∧ i = .int .i64 ((ls.length : Int) - 1 - k) ∧ J (bw ls k) wr ∧ Below n₀ W wr ∧ W.heap.size ≤ wr.heap.size
set_option maxRecDepth 100000 in
set_option maxHeartbeats 2000000 in
theorem bw1_in (n : Nat) (hn : 1 ≤ n) (l Bs n₀ len cap : Nat) (ao : Option Addr) (ls : List L) (hlen : Hid (ls.length = len)) (hl2 : len ≤ 1000000) (J Jx : List XL → World → Prop) (W : World)
    (HJ : Hid (AbidesFrom W.heap.size J))
    (HY : Hid (∀ pre x W1, J pre W1 → pre.length < len → YieldAt Fence.wide (n - 1) Try.prog l #[.int .i64 (x.1 : Int), lV x.2] W1 fun e W' =>
      (e = .returned (.bool true) ∧ J (pre ++ [x]) W' ∧ Below n₀ W1 W') ∨ (e = .returned (.bool false) ∧ Jx (pre ++ [x]) W')))
    (hn₀ : n₀ ≤ W.heap.size) (hBsl : Bs < n₀) (hBs : W.cell? ⟨Bs, 0, none⟩ = some (.slice ao len cap)) (HC : Hid (LsIn W n₀ ao ls)) (H0 : Hid (J [] W)) :
    CallsIn Fence.wide n Try.prog 53 #[.func (.yield l) #[] #[], .pointer (some ⟨Bs, 0, none⟩)] W fun e W' => (∃ v, e = .returned v) ∧
      ((∃ ys, ys = bw ls len ∧ J ys W') ∨ (∃ pre, pre <+: bw ls len ∧ Jx pre W')) := by
  refine callsIn_of_wp Try.func53 rfl trivial ?_ rfl
  simp only [Try.ntmps53, List.size_toArray, List.length_cons, List.length_nil, Nat.reduceAdd, Nat.reduceSub, Array.replicate_succ, Array.replicate_zero, List.push_toArray, List.append_toArray, List.nil_append, List.cons_append]
  gi_wp2_with fail
  gi_loopw [3] (fun i wr => BwRel ls n₀ J W i wr) (fun i _ => ((intOf i) + 1).toNat)
  case atStart => exact ⟨0, Nat.zero_le _, by rw [hlen.out]; simp, H0.out, Below.refl _ _, Nat.le_refl _⟩
  case round =>
    obtain ⟨k, hk, rfl, hJp, hbel, hsz⟩ := hrel
    have HJP : Hid (J (bw ls k) wr) := hJp
    have BL : Hid (Below n₀ W wr) := hbel
    clear hJp hbel
    rw [hlen.out] at hk ⊢
    by_cases hlt : k < len
    · obtain ⟨q, hq⟩ : ∃ q : Nat, len = k + q + 1 := ⟨len - k - 1, by omega⟩
      have hi : (len : Int) - 1 - (k : Int) = (q : Int) := by omega
      rw [hi]
      have hb := HC.out
      rcases hb with hb | ⟨b, o, rfl, hb, hcs⟩
      · rw [hb] at hlen
        have := hlen.out
        simp at this
        omega
      have hcs2 : ∀ i, i < ls.length * 2 → wr.cell? ⟨b, o + i, none⟩ = (ls.flatMap cL)[i]? := fun i hi => by rw [BL.out.cell (p := ⟨b, o + i, none⟩) hb]; exact hcs i hi
      obtain ⟨a0, a1⟩ := ls_cells hcs2 q (by rw [hlen.out]; omega)
      have hbs2 : wr.cell? ⟨Bs, 0, none⟩ = some (.slice (some ⟨b, o, none⟩) len cap) := by rw [BL.out.cell (p := ⟨Bs, 0, none⟩) hBsl]; exact hBs
      clear hcs hcs2
      obtain ⟨t, ht⟩ : ∃ t, Hid (ls.getD q dL = t) := ⟨_, rfl⟩
      rw [ht.out] at a0 a1
      obtain ⟨v0, h0⟩ : ∃ v, t.name = v := ⟨_, rfl⟩
      obtain ⟨v1, h1⟩ : ∃ v : Int, (t.slot : Int) = v := ⟨_, rfl⟩
      have HV : Hid (lV t = .agg #[.string v0, .int .i64 v1]) := by unfold Hid lV; rw [h0, h1]
      rw [h0] at a0
      rw [h1] at a1
      clear h0 h1
      have hbk : Hid (bw ls (k + 1) = bw ls k ++ [(q, t)]) := by
        unfold Hid
        rw [bw_succ, hlen.out, ← ht.out, show len - 1 - k = q by omega]
      have hy0 := HY.out (bw ls k) (q, t) _ HJP.out (by rw [bw_length]; exact hlt)
      simp only at hy0
      rw [HV.out] at hy0
      obtain ⟨fn, tmps, assign, body, hy, hR⟩ := hy0
      have hqc : q < len := by omega
      have hqn : Hid (q + k + 1 = len) := by unfold Hid; omega
      clear hq hi
      gi_wp2
      refine hR.mono ?_
      rintro e W3 (⟨rfl, hJ4, hk4⟩ | ⟨rfl, hJx4⟩)
      · have BL4 : Hid (Below n₀ W W3) := BL.out.trans hk4
        have hs4 : W.heap.size ≤ W3.heap.size := Nat.le_trans hsz hk4.size
        have HJ4 : Hid (J (bw ls (k + 1)) W3) := by unfold Hid; rw [hbk.out]; exact hJ4
        clear hk4 hJ4 hR hy
        gi_wp2
        go_roundw
        case rel => exact ⟨k + 1, by rw [hlen.out]; omega, by have := hqn.out; rw [hlen.out]; congr 1; omega, HJ4.out, BL4.out, hs4⟩
        case measure => simp [intOf]
      · have HJX : Hid (Jx (bw ls (k + 1)) W3) := by unfold Hid; rw [hbk.out]; exact hJx4
        clear hJx4 hR hy
        gi_wp2
        refine bodyPost_ret (results_none rfl _ _ _) rfl ?_
        exact ⟨⟨_, rfl⟩, .inr ⟨_, bw_prefix ls (k + 1) len (by omega), HJX.out⟩⟩
    · have hkl : k = len := by omega
      subst hkl
      gi_wp2
      go_end0
      exact ⟨⟨_, rfl⟩, .inl ⟨_, rfl, HJP.out⟩⟩
theorem bw_stops (n : Nat) (hn : 1 ≤ n) (Bs n₀ cap : Nat) (ao : Option Addr) (ls : List L) (hl : ls.length ≤ 1000000) (w : World) (hn₀ : n₀ ≤ w.heap.size) (hBsl : Bs < n₀) (hBs : w.cell? ⟨Bs, 0, none⟩ = some (.slice ao ls.length cap)) (HC : LsIn w n₀ ao ls) :
    SeqStopsK Fence.wide n Try.prog 53 #[.pointer (some ⟨Bs, 0, none⟩)] (fun x : XL => #[.int .i64 (x.1 : Int), lV x.2]) (Below n₀) (fun ys => ys = bw ls ls.length) (fun pre => pre <+: bw ls ls.length) ls.length w := fun l J Jx W hW hJ _ hY h0 =>
  bw1_in n hn l Bs n₀ ls.length cap ao ls rfl hl J Jx W hJ hY (Nat.le_trans hn₀ hW.size) hBsl (by rw [hW.cell (p := ⟨Bs, 0, none⟩) (by show Bs < _; omega)]; exact hBs) (by
    rcases HC with h | ⟨b, o, h1, h2, h3⟩
    · exact .inl h
    · exact .inr ⟨b, o, h1, h2, fun i hi => by rw [hW.cell (p := ⟨b, o + i, none⟩) (by show b < _; omega)]; exact h3 i hi⟩) h0
theorem back_in (n : Nat) (ao : Option Addr) (len cap : Nat) (w : World) :
    CallsIn Fence.wide n Try.prog 52 #[.slice ao len cap] w fun e w' => e = .returned (.func (.func 53) #[] #[.pointer (some ⟨w.heap.size, 0, none⟩)]) ∧ w' = w.alloc (.cells #[.slice ao len cap] 54) := by
  refine callsIn_of_wp Try.func52 rfl trivial ?_ rfl
  simp only [Try.ntmps52, List.size_toArray, List.length_cons, List.length_nil, Nat.reduceAdd, Nat.reduceSub, Array.replicate_succ, Array.replicate_zero, List.push_toArray, List.append_toArray, List.nil_append, List.cons_append]
  gi_wp2
  go_ret
  exact ⟨rfl, rfl⟩
/-! ### last -/
def IL (w : World) (g : Nat) (nm : ByteArray) (pre : List XL) (W : World) : Prop :=
  (Boxed W g 9 (.string nm) ∧ Boxed W (g + 1) 3 (.int .i64 0) ∧ Boxed W (g + 2) 4 (.bool false)) ∧ (Below g w W ∧ g + 4 ≤ W.heap.size) ∧ (∀ x ∈ pre, x.2.name ≠ nm)
def IXL (w : World) (g : Nat) (nm : ByteArray) (c : Code) (pre : List XL) (W : World) : Prop :=
  ∃ (K : Nat), (Boxed W (g + 1) 3 (.int .i64 (K : Int)) ∧ Boxed W (g + 2) 4 (.bool true)) ∧ Below g w W ∧ c = .ret ∧ ∃ (pre' : List XL) (x : XL), pre = pre' ++ [x] ∧ (∀ x ∈ pre', x.2.name ≠ nm) ∧ x.2.name = nm ∧ K = x.2.slot
theorem il_own (w : World) (g B : Nat) (nm : ByteArray) (hg : g ≤ w.heap.size) (hB : g ≤ B) : OwnFrom B (IL w g nm) :=
  OwnFrom.and (OwnFrom.and (Own.from (boxed_own _ _ (fun _ => Value.string nm)) _) (OwnFrom.and (Own.from (boxed_own _ _ (fun _ => Value.int .i64 0)) _) (Own.from (boxed_own _ _ (fun _ => Value.bool false)) _)))
      (OwnFrom.and (OwnFrom.and (ownFrom_below hg hB) (fun _ _ _ _ hs hgr _ => Nat.le_trans hs hgr.size)) (ownFrom_pure _ _))
theorem ixl_own (w : World) (g B : Nat) (nm : ByteArray) (hg : g ≤ w.heap.size) (hB : g ≤ B) (c : Code) : OwnFrom B (IXL w g nm c) := by
  rintro s X Y row ⟨K, ⟨b2, b3⟩, hb, hrest⟩ hgr hr
  exact ⟨K, ⟨boxed_own _ _ (fun (_ : Unit) => Value.int .i64 (K : Int)) () X Y row b2 hgr (fun r e => (hr r e).2), boxed_own _ _ (fun (_ : Unit) => Value.bool true) () X Y row b3 hgr (fun r e => (hr r e).2)⟩,
    ownFrom_below (β := Unit) hg hB () X Y row hb hgr hr, hrest⟩
theorem lx_own (Bx B : Nat) (x : XL) : OwnFrom B (fun (_ : Unit) W => Own W Bx #[.string x.2.name, .int .i64 (x.2.slot : Int)] 71) := by
  rintro _ X Y row hb hg hr
  unfold Own at hb ⊢
  rw [hg.block Bx (Array.getElem?_eq_some_iff.1 hb).1 (fun e => by obtain ⟨_, o, ho, hc⟩ := hr Bx e.symm; rw [hb] at ho; cases ho; cases hc)]
  exact hb
theorem last_results {W : World} {g : Nat} {y : Int} {b : Bool} {tmps : Array Value} (h4 : tmps.getD 4 undef = .pointer (some ⟨g + 1, 0, none⟩)) (h5 : tmps.getD 5 undef = .pointer (some ⟨g + 2, 0, none⟩))
    (c1 : Boxed W (g + 1) 3 (.int .i64 y)) (c2 : Boxed W (g + 2) 4 (.bool b)) : (results Try.f41 tmps).run Try.prog W = .ok (.tuple #[.int .i64 y, .bool b]) W := by
  have d1 := c1.cell
  have d2 := c2.cell
  have h4' : tmps[4]?.getD undef = .pointer (some ⟨g + 1, 0, none⟩) := by simpa using h4
  have h5' : tmps[5]?.getD undef = .pointer (some ⟨g + 2, 0, none⟩) := by simpa using h5
  simp [results, Try.results41, h4', h5', asAddr, loadVar, go_sem, d1, d2]
def LastV (nm : ByteArray) (ls : List L) : Value := match lastN nm ls with | some x => .tuple #[.int .i64 (x.slot : Int), .bool true] | none => .tuple #[.int .i64 0, .bool false]
set_option maxRecDepth 100000 in
set_option maxHeartbeats 2000000 in
theorem last_in (nm : ByteArray) (ls : List L) (hl : ls.length ≤ 1000000) (ao : Option Addr) (cap : Nat) (w : World) (HC : Hid (LsIn w w.heap.size ao ls)) (TT : Value) (HTT : Hid (LastV nm ls = TT)) :
    CallsIn Fence.wide 6 Try.prog 41 #[.slice ao ls.length cap, .string nm] w fun e w' => e = .returned TT ∧ Below w.heap.size w w' := by
  obtain ⟨g, hg⟩ : ∃ g, g = w.heap.size := ⟨_, rfl⟩
  have HG : Hid (g = w.heap.size) := hg
  obtain ⟨n, hn⟩ : ∃ n, Hid (ls.length = n) := ⟨_, rfl⟩
  rw [hn.out]
  refine callsIn_of_wp_marks Try.func41 rfl trivial ?_ rfl
  simp only [Try.ntmps41, List.size_toArray, List.length_cons, List.length_nil, Nat.reduceAdd, Nat.reduceSub, Array.replicate_succ, Array.replicate_zero, List.push_toArray, List.append_toArray, List.nil_append, List.cons_append]
  gi_wp2_with fail
  refine ⟨trivial, (back_in _ ao n cap _).mono ?_⟩
  rintro e w1 ⟨rfl, hw1⟩
  simp only [World.size_alloc, Nat.add_assoc, Nat.reduceAdd]
  rw [← hg]
  have b0 : Boxed w1 g 9 (.string nm) := by rw [hw1, hg]; exact ((((Boxed.new w 9 _).alloc _).alloc _).alloc _)
  have b1 : Boxed w1 (g + 1) 3 (.int .i64 0) := by
    have := ((((Boxed.new (w.alloc (.cells #[.string nm] 9)) 3 (.int .i64 0))).alloc (.cells #[.bool false] 4)).alloc (.cells #[.slice ao n cap] 54))
    rw [World.size_alloc] at this
    rw [hw1, hg]; exact this
  have b2 : Boxed w1 (g + 2) 4 (.bool false) := by
    have := (((Boxed.new ((w.alloc (.cells #[.string nm] 9)).alloc (.cells #[.int .i64 0] 3)) 4 (.bool false))).alloc (.cells #[.slice ao n cap] 54))
    simp only [World.size_alloc] at this
    rw [hw1, hg]; exact this
  have b3 : Boxed w1 (g + 3) 54 (.slice ao n cap) := by
    have := (((Boxed.new (((w.alloc (.cells #[.string nm] 9)).alloc (.cells #[.int .i64 0] 3)).alloc (.cells #[.bool false] 4)) 54 (.slice ao n cap))))
    simp only [World.size_alloc] at this
    rw [hw1, hg]; exact this
  have hsz : w1.heap.size = g + 4 := by rw [hw1, hg]; simp only [World.size_alloc]
  have hB0 : Below g w w1 := by
    rw [hw1, hg]
    exact (((((Below.refl _ w).alloc (Nat.le_refl _) _).alloc (by simp) _).alloc (by simp; omega) _).alloc (by simp; omega) _)
  have HC1 : LsIn w1 (g + 4) ao ls := by
    rcases HC.out with h | ⟨b, o, h1, h2, h3⟩
    · exact .inl h
    · exact .inr ⟨b, o, h1, by omega, fun i hi => by rw [hB0.cell (p := ⟨b, o + i, none⟩) (by show b < _; omega)]; exact h3 i hi⟩
  clear hw1 hg
  have hgw : g ≤ w.heap.size := by rw [HG.out]; exact Nat.le_refl _
  have hst := bw_stops 5 (by omega) (g + 3) (g + 4) cap ao ls hl w1 (by omega) (by omega) (by rw [hn.out]; exact b3.cell) HC1
  gi_wp2_with fail
  refine wpIn_rangeFunc_ownH (F := Fence.wide) rfl (by omega) (gf := 53) (lb := #[.pointer (some ⟨g + 3, 0, none⟩)]) rfl trivial (enters_of Try.func53 (by kernel_rfl) rfl)
    hst belowK_t (belowK_b (by omega)) (Below.refl _ _) (fun _ => rfl)
    (IL w g nm) (IXL w g nm) (il_own w g _ nm hgw (by omega)) (ixl_own w g _ nm hgw (by omega))
    ⟨⟨b0, b1, b2⟩, ⟨hB0, by omega⟩, by simp⟩
    (fun x a' W => ∃ Bx, g + 3 < Bx ∧ Own W Bx #[.string x.2.name, .int .i64 (x.2.slot : Int)] 71 ∧ a' = { tmps := #[.slice ao n cap, .string nm, undef, .pointer (some ⟨g, 0, none⟩), .pointer (some ⟨g + 1, 0, none⟩), .pointer (some ⟨g + 2, 0, none⟩), undef, .pointer (some ⟨Bx, 0, none⟩), .slice ao n cap, .func (.func 53) #[] #[.pointer (some ⟨g + 3, 0, none⟩)], .int .i64 (x.1 : Int), lV x.2, undef, undef, undef, undef, undef, undef], defers := [] })
    (fun x a' _ X Y row hs hg hr => by obtain ⟨Bx, h1, h2, h3⟩ := hs; exact ⟨Bx, h1, lx_own Bx _ x () X Y row h2 hg hr, h3⟩)
    ?assign ?body ?done ?stop
  case assign =>
    rintro l pre x W K hI hK
    have hgW : g ≤ W.heap.size := Nat.le_trans hgw hI.2.1.1.size
    have hB4 : g + 3 < W.heap.size := by have := hI.2.1.2; omega
    have HK : Hid _ := hK
    clear hK
    have hsh : lV x.2 = .agg #[.string x.2.name, .int .i64 (x.2.slot : Int)] := rfl
    rw [hsh]
    gi_wp2
    rw [← hsh]
    exact HK.out _ _ ((KeepsOthers.alloc _ _).from _) ((Below.refl (g + 4) W).alloc hB4 _) ((il_own w g _ nm hgw (by omega)).alloc _ hI) ⟨W.heap.size, hB4, heap_alloc_new W _, rfl⟩
  case body =>
    rintro l pre x a' W hl ⟨r, hr⟩ ⟨⟨c0, c1, c2⟩, ⟨hbel, hgs⟩, hok⟩ ⟨Bx, hBx, hfb, rfl⟩ hlt
    have hx0 := hfb.cell 0
    have hx1 := hfb.cell 1
    simp only [List.getElem?_toArray, List.getElem?_cons_zero, List.getElem?_cons_succ] at hx0 hx1
    have d0 := c0.cell
    have d1 := c1.cell
    have d2 := c2.cell
    have e1 := c1.frozen
    have e2 := c2.frozen
    by_cases hnm : x.2.name = nm
    · have HN : Hid (x.2.name = nm) := hnm
      rw [hnm] at hx0
      clear hnm
      gi_wp2
      refine ⟨((KeepsOthers.setCell _ _ _).trans (KeepsOthers.setCell _ _ _)).from _, x.2.slot, ⟨(c1.set _).other (by omega) _, (c2.other (by omega) _).set _⟩, (hbel.setCell (p := ⟨g + 1, 0, none⟩) (Nat.le_succ _) _).setCell (p := ⟨g + 2, 0, none⟩) (Nat.le_add_right _ _) _, rfl, pre, x, rfl, hok, HN.out, rfl⟩
    · have HN : Hid (¬ x.2.name = nm) := hnm
      have hq : (x.2.name.toList == nm.toList) = false := by rw [ba_eq]; simpa using hnm
      clear hnm
      gi_wp2
      refine ⟨(KeepsOthers.refl _).from _, Below.refl _ _, ⟨c0, c1, c2⟩, ⟨hbel, hgs⟩, ?_⟩
      intro y hy
      rcases List.mem_append.1 hy with hy | hy
      · exact hok y hy
      · rw [List.mem_singleton.1 hy]; exact HN.out
  case done =>
    rintro D ys W hD rfl ⟨⟨c0, c1, c2⟩, ⟨hbel, hgs⟩, hok⟩ hK
    have HX : Hid (TT = .tuple #[.int .i64 0, .bool false]) := by unfold Hid; rw [← HTT.out]; unfold LastV; rw [bw_none hok]
    have d1 := c1.cell
    have d2 := c2.cell
    have e1 := c1.frozen
    have e2 := c2.frozen
    gi_wp2
    have k1 := (c1.set (.int .i64 0)).other (B' := g + 2) (by omega) (.bool false)
    have k2 := (c2.other (B' := g + 1) (by omega) (.int .i64 0)).set (.bool false)
    have hbl : Below g w ((W.setCell ⟨g + 1, 0, none⟩ (.int .i64 0)).setCell ⟨g + 2, 0, none⟩ (.bool false)) :=
      (hbel.setCell (p := ⟨g + 1, 0, none⟩) (Nat.le_succ _) _).setCell (p := ⟨g + 2, 0, none⟩) (Nat.le_add_right _ _) _
    have hKK := ((KeepsOthers.setCell W ⟨g + 1, 0, none⟩ (.int .i64 0)).trans (KeepsOthers.setCell _ ⟨g + 2, 0, none⟩ (.bool false))).same D _ hK rfl
    refine ⟨by simp, .inl ⟨_, _, rfl, run_takeDeferred hKK, ?_⟩⟩
    refine ⟨_, last_results (g := g) rfl rfl (k1.kept (grownBy_putObj' _ D _) (by intro e; cases e; omega)) (k2.kept (grownBy_putObj' _ D _) (by intro e; cases e; omega)), ?_⟩
    rw [HX.out]
    exact ⟨rfl, by rw [← HG.out]; exact hbl.trans (belowK_b (w := w1) (by omega) _ D _ _ hD hKK rfl rfl)⟩
  case stop =>
    rintro D c pre W hD hpre ⟨K, ⟨c1, c2⟩, hbel, rfl, pre', x, rfl, hok, hnm, rfl⟩ hK
    have HX : Hid (TT = .tuple #[.int .i64 (x.2.slot : Int), .bool true]) := by unfold Hid; rw [← HTT.out]; unfold LastV; rw [bw_found hpre hok hnm]
    clear hpre hnm hok
    gi_wp2
    refine ⟨by simp, .inl ⟨_, _, rfl, run_takeDeferred hK, ?_⟩⟩
    refine ⟨_, last_results (g := g) rfl rfl (c1.kept (grownBy_putObj' _ D _) (by intro e; cases e; omega)) (c2.kept (grownBy_putObj' _ D _) (by intro e; cases e; omega)), ?_⟩
    rw [HX.out]
    exact ⟨rfl, by rw [← HG.out]; exact hbel.trans (belowK_b (w := w1) (by omega) _ D _ _ hD hK rfl rfl)⟩
theorem last_as (nm : ByteArray) (ls : List L) (hl : ls.length ≤ 1000000) (ao : Option Addr) (cap : Nat) (w : World) (HC : LsIn w w.heap.size ao ls) :
    Calls Try.prog 41 #[.slice ao ls.length cap, .string nm] w fun e w' => e = .returned (LastV nm ls) ∧ Below w.heap.size w w' :=
  callsIn_wide.1 (last_in nm ls hl ao cap w HC _ rfl)
end Go.Proofs.Ytnnajgbkpilaaaa
