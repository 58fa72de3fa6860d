/-
  CONTRACTS of the landed lex's scan and of the function that it answers.
-/
import Derived.Test.YteeoakbafbnkhaaDoorXScanMath
import Derived.RangeFuncNested
import Derived.RangeFuncBound
import Derived.RangeFuncCalls
import Derived.RangeFuncLeaves
import Derived.Shelf.Abstract
import Derived.Shelf.RegionOpen
import Derived.OwnWalkIn
import Derived.TacticsInMore
import Derived.LoopNIn
import Derived.LoopIn
namespace Go.Proofs.YteeoakbafbnkhaaDoor
open Go.RowKit Go.Shelf
set_option linter.unusedVariables false
attribute [local go_sem] Oper.semAt_some

/-- What a round keeps: what lay below n₀, and whatever has been found. -/
def KF (n₀ : Nat) (W W' : World) : Prop := Below n₀ W W' ∧ ∀ (b : Nat) (cs : Array Value) (t : TypeId) (fr : Nat × Nat), (t = 46 ∨ t = 9) → W.heap[b]? = some (Obj.cells cs t fr) → W'.heap[b]? = some (Obj.cells cs t fr)
theorem grown_of_below {W W' : World} (h : Below W.heap.size W W') : W.grownBy W' none := ⟨h.os, h.tape, h.output, h.size, fun k hk _ => h.block k hk⟩
def ScanRel (s : ByteArray) (n₀ Bn : Nat) (xs : List Fnd) (J : List Fnd → World → Prop) (W : World) (i : Value) (wr : World) : Prop :=
  ∃ (pre : List Fnd) (at0 P : Nat), at0 ≤ s.size ∧ P = at0 + blankN false ((bytesN s).drop at0) ∧ i = .int .i64 P ∧ xs = pre ++ SC at0 ((bytesN s).drop at0) ∧ J pre wr ∧ Below n₀ W wr ∧ W.heap.size ≤ wr.heap.size ∧ wr.heap[Bn]? = some (.cells #[.string s] 9 (0, 0))
theorem shape_ok {x : Fnd} {a0 : Int} {a1 : ByteArray} {a2 a3 a4 a5 a6 : Int} (h : foundV x.1.1 x.1.2 = .agg #[.int .u8 a0, .string a1, .int .u64 a2, .int .i64 a3, .int .i64 a4, .int .i64 a5, .int .i64 a6]) (hok : okF x = true) : a5 = 0 ∧ a4 = ((x.1.1 + lenF x : Nat) : Int) := by
  obtain ⟨⟨p, o⟩, hx⟩ := x
  match o with
  | .ok (kd, tx, n, len) =>
    simp only [foundV, foundOk, Value.agg.injEq, Array.mk.injEq, List.cons.injEq, Value.int.injEq, true_and, and_true] at h
    exact ⟨h.2.2.2.2.2.1.symm, h.2.2.2.2.1.symm⟩
  | .error (q, e) => simp [okF, okX] at hok
theorem shape_no {x : Fnd} {a0 : Int} {a1 : ByteArray} {a2 a3 a4 a5 a6 : Int} (h : foundV x.1.1 x.1.2 = .agg #[.int .u8 a0, .string a1, .int .u64 a2, .int .i64 a3, .int .i64 a4, .int .i64 a5, .int .i64 a6]) (hok : okF x = false) : (a5 != 0) = true := by
  obtain ⟨⟨p, o⟩, hx⟩ := x
  match o, hx with
  | .ok (kd, tx, n, len), _ => simp [okF, okX] at hok
  | .error (q, e), hx =>
    simp only [foundV, foundNo, Value.agg.injEq, Array.mk.injEq, List.cons.injEq, Value.int.injEq, true_and, and_true] at h
    have h5 : (e : Int) = a5 := h.2.2.2.2.2.1
    have := hx q e rfl
    simp; omega
set_option maxRecDepth 100000 in
set_option maxHeartbeats 2000000 in
theorem scan1_in (n : Nat) (hn : 1 ≤ n) (l Bn n₀ : Nat) (s : ByteArray) (h : s.size ≤ 1048576) (xs : List Fnd) (HXS : Hid (SC 0 (bytesN s) = xs)) (J Jx : List Fnd → World → Prop) (W : World)
    (HJ : Hid (AbidesFrom W.heap.size J))
    (HY : Hid (∀ pre x W1, J pre W1 → pre.length < xs.length → YieldAt Fence.wide (n - 1) Tryd.prog l #[foundV x.1.1 x.1.2] W1 fun e W' =>
      (e = .returned (.bool true) ∧ J (pre ++ [x]) W' ∧ KF n₀ W1 W') ∨ (e = .returned (.bool false) ∧ Jx (pre ++ [x]) W')))
    (HBN : Hid (W.heap[Bn]? = some (.cells #[.string s] 9 (0, 0)))) (hB2 : n₀ ≤ W.heap.size) (hG : 2 < n₀) (HL : Hid (Laid W)) (H0 : Hid (J [] W)) :
    CallsIn Fence.wide n Tryd.prog 38 #[.func (.yield l) #[] #[], .pointer (some ⟨Bn, 0, none⟩)] W fun e W' => (∃ v, e = .returned v) ∧
      ((∃ ys, ys = xs ∧ J ys W') ∨ (∃ pre, pre <+: xs ∧ Jx pre W')) := by
  obtain ⟨P0, hP0⟩ : ∃ P0, Hid (0 + blankN false ((bytesN s).drop 0) = P0) := ⟨_, rfl⟩
  have hc0 : W.cell? ⟨Bn, 0, none⟩ = some (.string s) := cell_of_row _ _ 0 _ _ _ HBN.out
  have hbn : Bn < W.heap.size := (Array.getElem?_eq_some_iff.1 HBN.out).1
  refine callsIn_of_wp Tryd.func38 rfl trivial ?_ rfl
  simp only [Tryd.ntmps38, List.size_toArray, List.length_cons, List.length_nil, Nat.reduceAdd, Nat.reduceSub, Array.replicate_succ, Array.replicate_zero, List.push_toArray, List.append_toArray, List.nil_append, List.cons_append]
  gi_wp2_with fail
  refine ⟨trivial, (callsIn_wide.2 (xskip_as s 0 0 P0 rfl (by omega) h hP0.out _)).mono ?_⟩
  rintro e w1 ⟨rfl, hb1⟩
  have HJ1 : Hid (J [] w1) := HJ.out [] W w1 none H0.out (grown_of_below hb1) (fun r e => by cases e)
  have HB1 : Hid (Below n₀ W w1) := hb1.mono hB2
  have HBN1 : Hid (w1.heap[Bn]? = some (.cells #[.string s] 9 (0, 0))) := by unfold Hid; rw [hb1.block Bn hbn]; exact HBN.out
  have hs1 : W.heap.size ≤ w1.heap.size := hb1.size
  clear hb1
  gi_wp2_with fail
  gi_loopw [3] (fun i wr => ScanRel s n₀ Bn xs J W i wr) (fun i _ => s.size - (intOf i).toNat)
  case atStart => exact ⟨[], 0, P0, by omega, hP0.out.symm, rfl, by rw [List.nil_append, List.drop_zero]; exact HXS.out.symm, HJ1.out, HB1.out, hs1, HBN1.out⟩
  case round =>
    obtain ⟨pre, at0, P, hat, hP, rfl, hxs, hJp, hbel, hsz, hbnr⟩ := hrel
    have HBR : Hid (wr.heap[Bn]? = some (.cells #[.string s] 9 (0, 0))) := hbnr
    have HP : Hid (P = at0 + blankN false ((bytesN s).drop at0)) := hP
    have hPs : P ≤ s.size := by rw [hP]; have := blank_le ((bytesN s).drop at0) false; rw [List.length_drop, bytesN_length] at this; omega
    have HDD : Hid (((bytesN s).drop at0).drop (blankN false ((bytesN s).drop at0)) = (bytesN s).drop P) := by unfold Hid; rw [List.drop_drop, ← hP]
    have HX : Hid (xs = pre ++ SC at0 ((bytesN s).drop at0)) := hxs
    have HJP : Hid (J pre wr) := hJp
    have BL : Hid (Below n₀ W wr) := hbel
    have hc : wr.cell? ⟨Bn, 0, none⟩ = some (.string s) := cell_of_row _ _ 0 _ _ _ hbnr
    clear hP hxs hJp hbel hbnr
    by_cases hlt : P < s.size
    · have HNE : Hid (¬ ((bytesN s).drop at0).drop (blankN false ((bytesN s).drop at0)) = []) := by unfold Hid; rw [HDD.out, bytesN_drop s P hlt]; simp
      obtain ⟨x, hx⟩ : ∃ x, Hid (mkFnd P ((bytesN s).drop P) = x) := ⟨_, rfl⟩
      have HXM : Hid (mkFnd (at0 + blankN false ((bytesN s).drop at0)) (((bytesN s).drop at0).drop (blankN false ((bytesN s).drop at0))) = x) := by unfold Hid; rw [HDD.out, ← HP.out]; exact hx.out
      obtain ⟨a0, a1, a2, a3, a4, a5, a6, hsh⟩ := foundV_shape x.1.1 x.1.2
      have HSH : Hid (foundV P (oneN ((bytesN s).drop P)) = .agg #[.int .u8 a0, .string a1, .int .u64 a2, .int .i64 a3, .int .i64 a4, .int .i64 a5, .int .i64 a6]) := by unfold Hid; rw [← hsh, ← hx.out]; rfl
      have HSX : Hid (foundV x.1.1 x.1.2 = .agg #[.int .u8 a0, .string a1, .int .u64 a2, .int .i64 a3, .int .i64 a4, .int .i64 a5, .int .i64 a6]) := hsh
      have hlen : pre.length < xs.length := by
        rw [HX.out, List.length_append]
        by_cases hok : okF x = true
        · rw [SC_ok _ _ HNE.out (by rw [HXM.out]; exact hok)]; simp
        · rw [SC_no _ _ HNE.out (by rw [HXM.out]; simpa using hok)]; simp
      by_cases hok : okF x = true
      · obtain ⟨rfl, h4⟩ := shape_ok hsh hok
        obtain ⟨M, hM⟩ : ∃ M : Nat, Hid (x.1.1 + lenF x = M) := ⟨_, rfl⟩
        rw [hM.out] at h4
        subst h4
        have hMb : P < M ∧ M ≤ s.size := by
          have hl := ok_len P ((bytesN s).drop P) (by rw [hx.out]; exact hok)
          rw [hx.out, List.length_drop, bytesN_length] at hl
          have hp : x.1.1 = P := by rw [← hx.out]; rfl
          rw [← hM.out, hp]; omega
        have HX2 : Hid (xs = (pre ++ [x]) ++ SC M ((bytesN s).drop M)) := by
          unfold Hid
          rw [HX.out, SC_ok _ _ HNE.out (by rw [HXM.out]; exact hok), HXM.out, List.append_assoc]
          have hp : at0 + blankN false ((bytesN s).drop at0) = x.1.1 := by rw [← HP.out, ← hx.out]; rfl
          rw [List.drop_drop, ← Nat.add_assoc, hp, hM.out]; rfl
        obtain ⟨P2, hP2⟩ : ∃ P2, Hid (M + blankN false ((bytesN s).drop M) = P2) := ⟨_, rfl⟩
        have hPP : M ≤ P2 := by rw [← hP2.out]; omega
        clear hsh hok
        gi_wp2_with fail
        refine ⟨trivial, (callsIn_wide.2 (xread_as s P P rfl hlt h _ (HL.out.below BL.out hG))).mono ?_⟩
        rintro e w2 ⟨rfl, hb2⟩
        rw [HSH.out]
        have hg2 : wr.grownBy (w2.alloc (.cells #[.int .u8 a0, .string a1, .int .u64 a2, .int .i64 a3, .int .i64 (M : Int), .int .i64 0, .int .i64 a6] 46)) none := grown_of_below (hb2.alloc hb2.size _)
        have hJ3 := HJ.out pre wr _ none HJP.out hg2 (fun r e => by cases e)
        have hy0 := HY.out pre x _ hJ3 hlen
        rw [HSX.out] at hy0
        obtain ⟨fn, tmps, assign, body, hy, hR⟩ := hy0
        have BL3 : Hid (Below n₀ W (w2.alloc (.cells #[.int .u8 a0, .string a1, .int .u64 a2, .int .i64 a3, .int .i64 (M : Int), .int .i64 0, .int .i64 a6] 46))) := BL.out.trans ((hb2.alloc hb2.size _).mono (by omega))
        have hs3 : W.heap.size ≤ (w2.alloc (.cells #[.int .u8 a0, .string a1, .int .u64 a2, .int .i64 a3, .int .i64 (M : Int), .int .i64 0, .int .i64 a6] 46)).heap.size := Nat.le_trans hsz (hb2.alloc hb2.size _).size
        have HS3 : Hid _ := hs3
        have HB3 : Hid ((w2.alloc (.cells #[.int .u8 a0, .string a1, .int .u64 a2, .int .i64 a3, .int .i64 (M : Int), .int .i64 0, .int .i64 a6] 46)).heap[Bn]? = some (.cells #[.string s] 9 (0, 0))) := by unfold Hid; rw [(hb2.alloc hb2.size _).block Bn (by omega)]; exact HBR.out
        clear hg2 hJ3 hb2 hs3
        gi_wp2
        refine hR.mono ?_
        rintro e W3 (⟨rfl, hJ4, hk4⟩ | ⟨rfl, hJx4⟩)
        · have hblk := hk4.2 w2.heap.size _ _ _ (.inl rfl) (heap_alloc_new w2 _)
          have d4 : W3.cell? ⟨w2.heap.size, 4, none⟩ = some (.int .i64 (M : Int)) := cell_of_row _ _ 4 _ _ _ hblk
          have d5 : W3.cell? ⟨w2.heap.size, 5, none⟩ = some (.int .i64 0) := cell_of_row _ _ 5 _ _ _ hblk
          have BL4 : Hid (Below n₀ W W3) := BL3.out.trans hk4.1
          have hs4 : W.heap.size ≤ W3.heap.size := Nat.le_trans HS3.out hk4.1.size
          have HB4 : Hid (W3.heap[Bn]? = some (.cells #[.string s] 9 (0, 0))) := hk4.2 Bn _ _ _ (.inr rfl) HB3.out
          have hc3 : W3.cell? ⟨Bn, 0, none⟩ = some (.string s) := cell_of_row _ _ 0 _ _ _ HB4.out
          have HJ4 : Hid (J (pre ++ [x]) W3) := hJ4
          clear hblk hk4 hJ4 hR hy
          gi_wp2_with fail
          refine ⟨trivial, (callsIn_wide.2 (xskip_as s M M P2 rfl (by omega) h hP2.out _)).mono ?_⟩
          rintro e w5 ⟨rfl, hb5⟩
          have HJ5 : Hid (J (pre ++ [x]) w5) := HJ.out _ W3 w5 none HJ4.out (grown_of_below hb5) (fun r e => by cases e)
          have BL5 : Hid (Below n₀ W w5) := BL4.out.trans (hb5.mono (by omega))
          have hs5 : W.heap.size ≤ w5.heap.size := Nat.le_trans hs4 hb5.size
          have HB5 : Hid (w5.heap[Bn]? = some (.cells #[.string s] 9 (0, 0))) := by unfold Hid; rw [hb5.block Bn (by omega)]; exact HB4.out
          clear hb5
          gi_wp2
          go_roundw
          case rel => exact ⟨pre ++ [x], M, P2, by omega, hP2.out.symm, rfl, HX2.out, HJ5.out, BL5.out, hs5, HB5.out⟩
          case measure => simp [intOf]; omega
        · gi_wp2
          refine bodyPost_ret (results_none rfl _ _ _) rfl ?_
          exact ⟨⟨_, rfl⟩, .inr ⟨pre ++ [x], ⟨_, HX2.out.symm⟩, hJx4⟩⟩
      · have hok' : okF x = false := by simpa using hok
        have h5 := shape_no hsh hok'
        have HX2 : Hid (pre ++ [x] = xs) := by
          unfold Hid
          rw [HX.out, SC_no _ _ HNE.out (by rw [HXM.out]; exact hok'), HXM.out]
        clear hsh hok hok'
        gi_wp2_with fail
        refine ⟨trivial, (callsIn_wide.2 (xread_as s P P rfl hlt h _ (HL.out.below BL.out hG))).mono ?_⟩
        rintro e w2 ⟨rfl, hb2⟩
        rw [HSH.out]
        have hg2 : wr.grownBy (w2.alloc (.cells #[.int .u8 a0, .string a1, .int .u64 a2, .int .i64 a3, .int .i64 a4, .int .i64 a5, .int .i64 a6] 46)) none := grown_of_below (hb2.alloc hb2.size _)
        have hJ3 := HJ.out pre wr _ none HJP.out hg2 (fun r e => by cases e)
        have hy0 := HY.out pre x _ hJ3 hlen
        rw [HSX.out] at hy0
        obtain ⟨fn, tmps, assign, body, hy, hR⟩ := hy0
        clear hg2 hJ3 hb2
        gi_wp2
        refine hR.mono ?_
        rintro e W3 (⟨rfl, hJ4, hk4⟩ | ⟨rfl, hJx4⟩)
        · have hblk := hk4.2 w2.heap.size _ _ _ (.inl rfl) (heap_alloc_new w2 _)
          have d5 : W3.cell? ⟨w2.heap.size, 5, none⟩ = some (.int .i64 a5) := cell_of_row _ _ 5 _ _ _ hblk
          have HJ4 : Hid (J (pre ++ [x]) W3) := hJ4
          clear hblk hk4 hJ4 hR hy
          gi_wp2
          refine bodyPost_ret (results_none rfl _ _ _) rfl ?_
          exact ⟨⟨_, rfl⟩, .inl ⟨pre ++ [x], HX2.out, HJ4.out⟩⟩
        · gi_wp2
          refine bodyPost_ret (results_none rfl _ _ _) rfl ?_
          exact ⟨⟨_, rfl⟩, .inr ⟨pre ++ [x], ⟨[], by rw [List.append_nil]; exact HX2.out⟩, hJx4⟩⟩
    · have hPe : P = s.size := by omega
      have HE : Hid (pre = xs) := by
        unfold Hid; rw [HX.out, SC_end _ _ (by rw [HDD.out, hPe, drop_size]), List.append_nil]
      gi_wp2
      go_end0
      exact ⟨⟨_, rfl⟩, .inl ⟨pre, HE.out, HJP.out⟩⟩
/-- **scan** hands back a function over the text in a box of its own. -/
theorem xscan_in (n : Nat) (s : ByteArray) (w : World) :
    CallsIn Fence.wide n Tryd.prog 27 #[.string s] w fun e w' => e = .returned (.func (.func 38) #[] #[.pointer (some ⟨w.heap.size, 0, none⟩)]) ∧ w' = w.alloc (.cells #[.string s] 9) := by
  refine callsIn_of_wp Tryd.func27 rfl trivial ?_ rfl
  simp only [Tryd.ntmps27, List.size_toArray, List.length_cons, List.length_nil, Nat.reduceAdd, Nat.reduceSub, Array.replicate_succ, Array.replicate_zero, List.push_toArray, List.append_toArray, List.nil_append, List.cons_append]
  gi_wp2
  go_ret
  exact ⟨rfl, rfl⟩
theorem scan_stops (n : Nat) (hn : 1 ≤ n) (Bn n₀ : Nat) (s : ByteArray) (h : s.size ≤ 1048576) (w : World) (hn₀ : n₀ ≤ w.heap.size) (hG : 2 < n₀) (hc : w.heap[Bn]? = some (.cells #[.string s] 9 (0, 0))) (hL : Laid w) :
    SeqStopsK Fence.wide n Tryd.prog 38 #[.pointer (some ⟨Bn, 0, none⟩)] (fun x : Fnd => #[foundV x.1.1 x.1.2]) (KF n₀) (fun ys => ys = SC 0 (bytesN s)) (fun pre => pre <+: SC 0 (bytesN s)) (SC 0 (bytesN s)).length w := fun l J Jx W hW hJ _ hY h0 =>
  scan1_in n hn l Bn n₀ s h _ rfl J Jx W hJ hY (by unfold Hid; rw [hW.block Bn (Array.getElem?_eq_some_iff.1 hc).1]; exact hc) (Nat.le_trans hn₀ hW.size) hG (hL.on hW) h0
theorem KF.trans {n₀ : Nat} {A B C : World} (h : KF n₀ A B) (k : KF n₀ B C) : KF n₀ A C := ⟨h.1.trans k.1, fun b cs t fr ht hb => k.2 b cs t fr ht (h.2 b cs t fr ht hb)⟩
theorem KF.putObj {n₀ : Nat} {w : World} (hn : n₀ ≤ w.heap.size) (W : World) (l : Nat) (o o' : Obj) (hl : w.heap.size ≤ l) (h : W.heap[l]? = some o) (hc : o.isCells = false) (hw : o.isWalk = false) : KF n₀ W (W.putObj l o') :=
  ⟨belowK_b hn W l o o' hl h hc hw, fun b cs t fr _ hb => by
    rw [(grownBy_putObj' W l o').block b (Array.getElem?_eq_some_iff.1 hb).1 (fun e => by cases e; rw [h] at hb; cases hb; cases hc)]; exact hb⟩
end Go.Proofs.YteeoakbafbnkhaaDoor
