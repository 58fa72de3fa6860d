import Derived.Test.YtmhnbklchnnbaaaGreatDoorQ4
import Derived.Test.YtmhnbklchnnbaaaGreatDoorJXRead
import Derived.RangeFuncNested
import Derived.RangeFuncBound
import Derived.RangeFuncCalls
import Derived.RangeFuncLeaves
import Derived.Shelf.Abstract
import Derived.Shelf.RegionOpen
import Derived.OwnWalkIn
import Derived.TacticsInMore
import Derived.LoopNIn
import Derived.LoopIn
import Derived.RangeFuncBox
import Derived.Maps.AppendAt
import Derived.BigRegion
import Derived.Test.YtmhnbklchnnbaaaGreatDoorJXMid
set_option maxHeartbeats 2000000
set_option maxRecDepth 100000
namespace Go.Proofs.YtmhnbklchnnbaaaGreatDoor
open Go.RowKit
set_option linter.unusedVariables false
abbrev Fnd := { x : Nat × Except (Nat × Nat) (Nat × List Nat × Nat × Nat) // ∀ q e, x.2 = .error (q, e) → 30 ≤ e ∧ e ≤ 33 }
def mkFnd (p : Nat) (l : List Nat) : Fnd := ⟨(p, oneN l), fun q e h => one_err l q e h⟩
def okX (o : Except (Nat × Nat) (Nat × List Nat × Nat × Nat)) : Bool := match o with | .ok _ => true | .error _ => false
def lenX (o : Except (Nat × Nat) (Nat × List Nat × Nat × Nat)) : Nat := match o with | .ok (_, _, _, len) => len | .error _ => 0
def tokX (p : Nat) (o : Except (Nat × Nat) (Nat × List Nat × Nat × Nat)) : Nat × List Nat × Nat × Nat × Nat := match o with | .ok (kd, tx, n, len) => (kd, tx, n, p, p + len) | .error _ => (0, [], 0, 0, 0)
def okF (x : Fnd) : Bool := okX x.1.2
def lenF (x : Fnd) : Nat := lenX x.1.2
def tokF (x : Fnd) : Nat × List Nat × Nat × Nat × Nat := tokX x.1.1 x.1.2
theorem okF_mk (p : Nat) (l : List Nat) : okF (mkFnd p l) = okX (oneN l) := rfl
theorem lenF_mk (p : Nat) (l : List Nat) : lenF (mkFnd p l) = lenX (oneN l) := rfl
theorem tokF_mk (p : Nat) (l : List Nat) : tokF (mkFnd p l) = tokX p (oneN l) := rfl
theorem snd_mk (p : Nat) (l : List Nat) : (mkFnd p l).1.2 = oneN l := rfl
def scanN : Nat → Nat → List Nat → List Fnd
  | 0, _, _ => []
  | f + 1, at0, l =>
    if l.drop (blankN false l) = [] then []
    else if okF (mkFnd (at0 + blankN false l) (l.drop (blankN false l))) then
      mkFnd (at0 + blankN false l) (l.drop (blankN false l)) :: scanN f (at0 + blankN false l + lenF (mkFnd (at0 + blankN false l) (l.drop (blankN false l)))) (l.drop (blankN false l + lenF (mkFnd (at0 + blankN false l) (l.drop (blankN false l)))))
    else [mkFnd (at0 + blankN false l) (l.drop (blankN false l))]
theorem ok_len (p : Nat) (l : List Nat) (h : okF (mkFnd p l) = true) : 1 ≤ lenF (mkFnd p l) ∧ lenF (mkFnd p l) ≤ l.length := by
  rw [okF_mk] at h
  rw [lenF_mk]
  cases ho : oneN l with
  | ok x => obtain ⟨kd, tx, n, len⟩ := x; exact one_len l kd tx n len ho
  | error x => rw [ho] at h; simp [okX] at h
theorem scan_fuel : ∀ (f g at0 : Nat) (l : List Nat), l.length < f → l.length < g → scanN f at0 l = scanN g at0 l := by
  intro f
  induction f with
  | zero => intro g at0 l h; omega
  | succ f ih =>
    intro g at0 l h1 h2
    obtain ⟨g, rfl⟩ : ∃ g', g = g' + 1 := ⟨g - 1, by omega⟩
    rw [scanN, scanN]
    by_cases hd : l.drop (blankN false l) = []
    · rw [if_pos hd, if_pos hd]
    · rw [if_neg hd, if_neg hd]
      by_cases hk : okF (mkFnd (at0 + blankN false l) (l.drop (blankN false l))) = true
      · rw [if_pos hk, if_pos hk]
        have hl := ok_len _ _ hk
        rw [List.length_drop] at hl
        congr 1
        refine ih _ _ _ ?_ ?_ <;> (rw [List.length_drop]; omega)
      · rw [if_neg hk, if_neg hk]
def SC (at0 : Nat) (l : List Nat) : List Fnd := scanN (l.length + 1) at0 l
theorem SC_end (at0 : Nat) (l : List Nat) (h : l.drop (blankN false l) = []) : SC at0 l = [] := by unfold SC; rw [scanN, if_pos h]
theorem SC_no (at0 : Nat) (l : List Nat) (h : ¬ l.drop (blankN false l) = []) (hk : okF (mkFnd (at0 + blankN false l) (l.drop (blankN false l))) = false) : SC at0 l = [mkFnd (at0 + blankN false l) (l.drop (blankN false l))] := by
  unfold SC; rw [scanN, if_neg h, if_neg (by simp [hk])]
theorem SC_ok (at0 : Nat) (l : List Nat) (h : ¬ l.drop (blankN false l) = []) (hk : okF (mkFnd (at0 + blankN false l) (l.drop (blankN false l))) = true) :
    SC at0 l = mkFnd (at0 + blankN false l) (l.drop (blankN false l)) :: SC (at0 + blankN false l + lenF (mkFnd (at0 + blankN false l) (l.drop (blankN false l)))) (l.drop (blankN false l + lenF (mkFnd (at0 + blankN false l) (l.drop (blankN false l))))) := by
  unfold SC; rw [scanN, if_neg h, if_pos hk]
  have hl := ok_len _ _ hk
  rw [List.length_drop] at hl
  congr 1
  refine scan_fuel _ _ _ _ ?_ ?_ <;> (rw [List.length_drop]; omega)
def tkF : Nat → List Fnd → Except (Nat × Nat) (List (Nat × List Nat × Nat × Nat × Nat))
  | _, [] => .ok []
  | k, x :: r => if k = 32768 then .error (x.1.1, 3) else match x.1.2 with | .error (q, e) => .error (x.1.1 + q, e) | .ok _ => preT [tokF x] (tkF (k + 1) r)
theorem TK_scan : ∀ (m k at0 : Nat) (l : List Nat), l.length ≤ m → TK k at0 l = tkF k (SC at0 l) := by
  intro m
  induction m with
  | zero =>
    intro k at0 l h
    have : l = [] := List.length_eq_zero_iff.1 (by omega)
    subst this
    rw [SC_end _ _ rfl, TK_end _ _ _ rfl]; rfl
  | succ m ih =>
    intro k at0 l h
    by_cases hd : l.drop (blankN false l) = []
    · rw [SC_end _ _ hd, TK_end _ _ _ hd]; rfl
    · by_cases hk : k = 32768
      · rw [TK_limit _ _ _ hd hk]
        by_cases hok : okF (mkFnd (at0 + blankN false l) (l.drop (blankN false l))) = true
        · rw [SC_ok _ _ hd hok, tkF, if_pos hk]; rfl
        · rw [SC_no _ _ hd (by simpa using hok), tkF, if_pos hk]; rfl
      · cases ho : oneN (l.drop (blankN false l)) with
        | error x =>
          obtain ⟨q, e⟩ := x
          rw [TK_err _ _ _ q e hd hk ho, SC_no _ _ hd (by rw [okF_mk, ho]; rfl), tkF, if_neg hk, snd_mk, ho]; rfl
        | ok x =>
          obtain ⟨kd, tx, n, len⟩ := x
          have hok : okF (mkFnd (at0 + blankN false l) (l.drop (blankN false l))) = true := by rw [okF_mk, ho]; rfl
          have hlen : lenF (mkFnd (at0 + blankN false l) (l.drop (blankN false l))) = len := by rw [lenF_mk, ho]; rfl
          have htok : tokF (mkFnd (at0 + blankN false l) (l.drop (blankN false l))) = (kd, tx, n, at0 + blankN false l, at0 + blankN false l + len) := by rw [tokF_mk, ho]; rfl
          have hl := ok_len _ _ hok
          rw [hlen, List.length_drop] at hl
          rw [TK_ok _ _ _ kd tx n len hd hk ho, SC_ok _ _ hd hok, tkF, if_neg hk, hlen, htok, snd_mk, ho]
          show _ = preT _ _
          rw [← ih (k + 1) (at0 + blankN false l + len) (l.drop (blankN false l + len)) (by rw [List.length_drop]; omega)]
theorem tkF_pre : ∀ (pre rest : List Fnd) (k : Nat), (∀ x ∈ pre, okF x = true) → k + pre.length ≤ 32768 → tkF k (pre ++ rest) = preT (pre.map tokF) (tkF (k + pre.length) rest) := by
  intro pre
  induction pre with
  | nil => intro rest k _ _; rw [List.nil_append, List.map_nil, preT_nil]; rfl
  | cons x r ih =>
    intro rest k hok hk
    rw [List.length_cons] at hk
    rw [List.cons_append, tkF, if_neg (by omega)]
    have hx := hok x (by simp)
    have hr := ih rest (k + 1) (fun y hy => hok y (List.mem_cons_of_mem _ hy)) (by omega)
    cases ho : x.1.2 with
    | error q => unfold okF at hx; rw [ho] at hx; simp [okX] at hx
    | ok q =>
      show preT [tokF x] (tkF (k + 1) (r ++ rest)) = _
      rw [hr, preT_pre, List.length_cons]
      rw [show k + 1 + r.length = k + (r.length + 1) by omega]; rfl
theorem tokens_scan (l : List Nat) (h : l.length ≤ 65536) : tokens l = tkF 0 (SC 0 l) := by
  unfold tokens; rw [if_neg (by omega)]
  exact TK_scan l.length 0 0 l (Nat.le_refl _)
theorem tk_all (ys : List Fnd) (hok : ∀ x ∈ ys, okF x = true) (hl : ys.length ≤ 32768) : tkF 0 ys = .ok (ys.map tokF) := by
  have := tkF_pre ys [] 0 hok (by omega)
  rw [List.append_nil] at this
  rw [this]; simp [tkF, preT]
theorem tk_limit (pre : List Fnd) (x : Fnd) (rest : List Fnd) (hok : ∀ x ∈ pre, okF x = true) (hl : pre.length = 32768) : tkF 0 (pre ++ x :: rest) = .error (x.1.1, 3) := by
  rw [tkF_pre pre _ 0 hok (by omega), tkF, if_pos (by omega)]; rfl
theorem tk_error (pre : List Fnd) (x : Fnd) (rest : List Fnd) (q e : Nat) (hok : ∀ x ∈ pre, okF x = true) (hl : pre.length < 32768) (hx : x.1.2 = .error (q, e)) : tkF 0 (pre ++ x :: rest) = .error (x.1.1 + q, e) := by
  rw [tkF_pre pre _ 0 hok (by omega), tkF, if_neg (by omega), hx]; rfl
open Go.RowKit Go.Shelf
attribute [local go_sem] Oper.semAt_some
def KF (n₀ : Nat) (W W' : World) : Prop := Below n₀ W W' ∧ ∀ (b : Nat) (cs : Array Value) (t : TypeId) (fr : Nat × Nat), (t = 79 ∨ t = 9) → W.heap[b]? = some (Obj.cells cs t fr) → W'.heap[b]? = some (Obj.cells cs t fr)
theorem grown_of_below {W W' : World} (h : Below W.heap.size W W') : W.grownBy W' none := ⟨h.os, h.tape, h.output, h.size, fun k hk _ => h.block k hk⟩
def ScanRel (s : ByteArray) (n₀ Bn : Nat) (xs : List Fnd) (J : List Fnd → World → Prop) (W : World) (i : Value) (wr : World) : Prop :=
  ∃ (pre : List Fnd) (at0 P : Nat), at0 ≤ s.size ∧ P = at0 + blankN false ((bytesN s).drop at0) ∧ i = .int .i64 P ∧ xs = pre ++ SC at0 ((bytesN s).drop at0) ∧ J pre wr ∧ Below n₀ W wr ∧ W.heap.size ≤ wr.heap.size ∧ wr.heap[Bn]? = some (.cells #[.string s] 9 (0, 0))
theorem shape_ok {x : Fnd} {a0 : Int} {a1 : ByteArray} {a2 a3 a4 a5 a6 : Int} (h : foundV x.1.1 x.1.2 = .agg #[.int .u8 a0, .string a1, .int .u64 a2, .int .i64 a3, .int .i64 a4, .int .i64 a5, .int .i64 a6]) (hok : okF x = true) : a5 = 0 ∧ a4 = ((x.1.1 + lenF x : Nat) : Int) := by
  obtain ⟨⟨p, o⟩, hx⟩ := x
  match o with
  | .ok (kd, tx, n, len) =>
    simp only [foundV, foundOk, Value.agg.injEq, Array.mk.injEq, List.cons.injEq, Value.int.injEq, true_and, and_true] at h
    exact ⟨h.2.2.2.2.2.1.symm, h.2.2.2.2.1.symm⟩
  | .error (q, e) => simp [okF, okX] at hok
theorem shape_no {x : Fnd} {a0 : Int} {a1 : ByteArray} {a2 a3 a4 a5 a6 : Int} (h : foundV x.1.1 x.1.2 = .agg #[.int .u8 a0, .string a1, .int .u64 a2, .int .i64 a3, .int .i64 a4, .int .i64 a5, .int .i64 a6]) (hok : okF x = false) : (a5 != 0) = true := by
  obtain ⟨⟨p, o⟩, hx⟩ := x
  match o, hx with
  | .ok (kd, tx, n, len), _ => simp [okF, okX] at hok
  | .error (q, e), hx =>
    simp only [foundV, foundNo, Value.agg.injEq, Array.mk.injEq, List.cons.injEq, Value.int.injEq, true_and, and_true] at h
    have h5 : (e : Int) = a5 := h.2.2.2.2.2.1
    have := hx q e rfl
    simp; omega
theorem scan1_in (n : Nat) (hn : 1 ≤ n) (l Bn n₀ : Nat) (s : ByteArray) (h : s.size ≤ 1048576) (xs : List Fnd) (HXS : Hid (SC 0 (bytesN s) = xs)) (J Jx : List Fnd → World → Prop) (W : World)
    (HJ : Hid (AbidesFrom W.heap.size J))
    (HY : Hid (∀ pre x W1, J pre W1 → pre.length < xs.length → YieldAt Fence.wide (n - 1) Tryz.prog l #[foundV x.1.1 x.1.2] W1 fun e W' =>
      (e = .returned (.bool true) ∧ J (pre ++ [x]) W' ∧ KF n₀ W1 W') ∨ (e = .returned (.bool false) ∧ Jx (pre ++ [x]) W')))
    (HBN : Hid (W.heap[Bn]? = some (.cells #[.string s] 9 (0, 0)))) (hB2 : n₀ ≤ W.heap.size) (hG : 2 < n₀) (HL : Hid (Laid W)) (H0 : Hid (J [] W)) :
    CallsIn Fence.wide n Tryz.prog 74 #[.func (.yield l) #[] #[], .pointer (some ⟨Bn, 0, none⟩)] W fun e W' => (∃ v, e = .returned v) ∧
      ((∃ ys, ys = xs ∧ J ys W') ∨ (∃ pre, pre <+: xs ∧ Jx pre W')) := by
  obtain ⟨P0, hP0⟩ : ∃ P0, Hid (0 + blankN false ((bytesN s).drop 0) = P0) := ⟨_, rfl⟩
  have hc0 : W.cell? ⟨Bn, 0, none⟩ = some (.string s) := cell_of_row _ _ 0 _ _ _ HBN.out
  have hbn : Bn < W.heap.size := (Array.getElem?_eq_some_iff.1 HBN.out).1
  refine callsIn_of_wp Tryz.func74 rfl trivial ?_ rfl
  simp only [Tryz.ntmps74, List.size_toArray, List.length_cons, List.length_nil, Nat.reduceAdd, Nat.reduceSub, Array.replicate_succ, Array.replicate_zero, List.push_toArray, List.append_toArray, List.nil_append, List.cons_append]
  gi_wp2_with fail
  refine ⟨trivial, (callsIn_wide.2 (xskip_as s 0 0 P0 rfl (by omega) h hP0.out _)).mono ?_⟩
  rintro e w1 ⟨rfl, hb1⟩
  have HJ1 : Hid (J [] w1) := HJ.out [] W w1 none H0.out (grown_of_below hb1) (fun r e => by cases e)
  have HB1 : Hid (Below n₀ W w1) := hb1.mono hB2
  have HBN1 : Hid (w1.heap[Bn]? = some (.cells #[.string s] 9 (0, 0))) := by unfold Hid; rw [hb1.block Bn hbn]; exact HBN.out
  have hs1 : W.heap.size ≤ w1.heap.size := hb1.size
  clear hb1
  gi_wp2_with fail
  gi_loopw [3] (fun i wr => ScanRel s n₀ Bn xs J W i wr) (fun i _ => s.size - (intOf i).toNat)
  case atStart => exact ⟨[], 0, P0, by omega, hP0.out.symm, rfl, by rw [List.nil_append, List.drop_zero]; exact HXS.out.symm, HJ1.out, HB1.out, hs1, HBN1.out⟩
  case round =>
    obtain ⟨pre, at0, P, hat, hP, rfl, hxs, hJp, hbel, hsz, hbnr⟩ := hrel
    have HBR : Hid (wr.heap[Bn]? = some (.cells #[.string s] 9 (0, 0))) := hbnr
    have HP : Hid (P = at0 + blankN false ((bytesN s).drop at0)) := hP
    have hPs : P ≤ s.size := by rw [hP]; have := blank_le ((bytesN s).drop at0) false; rw [List.length_drop, bytesN_length] at this; omega
    have HDD : Hid (((bytesN s).drop at0).drop (blankN false ((bytesN s).drop at0)) = (bytesN s).drop P) := by unfold Hid; rw [List.drop_drop, ← hP]
    have HX : Hid (xs = pre ++ SC at0 ((bytesN s).drop at0)) := hxs
    have HJP : Hid (J pre wr) := hJp
    have BL : Hid (Below n₀ W wr) := hbel
    have hc : wr.cell? ⟨Bn, 0, none⟩ = some (.string s) := cell_of_row _ _ 0 _ _ _ hbnr
    clear hP hxs hJp hbel hbnr
    by_cases hlt : P < s.size
    · have HNE : Hid (¬ ((bytesN s).drop at0).drop (blankN false ((bytesN s).drop at0)) = []) := by unfold Hid; rw [HDD.out, bytesN_drop s P hlt]; simp
      obtain ⟨x, hx⟩ : ∃ x, Hid (mkFnd P ((bytesN s).drop P) = x) := ⟨_, rfl⟩
      have HXM : Hid (mkFnd (at0 + blankN false ((bytesN s).drop at0)) (((bytesN s).drop at0).drop (blankN false ((bytesN s).drop at0))) = x) := by unfold Hid; rw [HDD.out, ← HP.out]; exact hx.out
      obtain ⟨a0, a1, a2, a3, a4, a5, a6, hsh⟩ := foundV_shape x.1.1 x.1.2
      have HSH : Hid (foundV P (oneN ((bytesN s).drop P)) = .agg #[.int .u8 a0, .string a1, .int .u64 a2, .int .i64 a3, .int .i64 a4, .int .i64 a5, .int .i64 a6]) := by unfold Hid; rw [← hsh, ← hx.out]; rfl
      have HSX : Hid (foundV x.1.1 x.1.2 = .agg #[.int .u8 a0, .string a1, .int .u64 a2, .int .i64 a3, .int .i64 a4, .int .i64 a5, .int .i64 a6]) := hsh
      have hlen : pre.length < xs.length := by
        rw [HX.out, List.length_append]
        by_cases hok : okF x = true
        · rw [SC_ok _ _ HNE.out (by rw [HXM.out]; exact hok)]; simp
        · rw [SC_no _ _ HNE.out (by rw [HXM.out]; simpa using hok)]; simp
      by_cases hok : okF x = true
      · obtain ⟨rfl, h4⟩ := shape_ok hsh hok
        obtain ⟨M, hM⟩ : ∃ M : Nat, Hid (x.1.1 + lenF x = M) := ⟨_, rfl⟩
        rw [hM.out] at h4
        subst h4
        have hMb : P < M ∧ M ≤ s.size := by
          have hl := ok_len P ((bytesN s).drop P) (by rw [hx.out]; exact hok)
          rw [hx.out, List.length_drop, bytesN_length] at hl
          have hp : x.1.1 = P := by rw [← hx.out]; rfl
          rw [← hM.out, hp]; omega
        have HX2 : Hid (xs = (pre ++ [x]) ++ SC M ((bytesN s).drop M)) := by
          unfold Hid
          rw [HX.out, SC_ok _ _ HNE.out (by rw [HXM.out]; exact hok), HXM.out, List.append_assoc]
          have hp : at0 + blankN false ((bytesN s).drop at0) = x.1.1 := by rw [← HP.out, ← hx.out]; rfl
          rw [List.drop_drop, ← Nat.add_assoc, hp, hM.out]; rfl
        obtain ⟨P2, hP2⟩ : ∃ P2, Hid (M + blankN false ((bytesN s).drop M) = P2) := ⟨_, rfl⟩
        have hPP : M ≤ P2 := by rw [← hP2.out]; omega
        clear hsh hok
        gi_wp2_with fail
        refine ⟨trivial, (callsIn_wide.2 (xread_as s P P rfl hlt h _ (HL.out.below BL.out hG))).mono ?_⟩
        rintro e w2 ⟨rfl, hb2⟩
        rw [HSH.out]
        have hg2 : wr.grownBy (w2.alloc (.cells #[.int .u8 a0, .string a1, .int .u64 a2, .int .i64 a3, .int .i64 (M : Int), .int .i64 0, .int .i64 a6] 79)) none := grown_of_below (hb2.alloc hb2.size _)
        have hJ3 := HJ.out pre wr _ none HJP.out hg2 (fun r e => by cases e)
        have hy0 := HY.out pre x _ hJ3 hlen
        rw [HSX.out] at hy0
        obtain ⟨fn, tmps, assign, body, hy, hR⟩ := hy0
        have BL3 : Hid (Below n₀ W (w2.alloc (.cells #[.int .u8 a0, .string a1, .int .u64 a2, .int .i64 a3, .int .i64 (M : Int), .int .i64 0, .int .i64 a6] 79))) := BL.out.trans ((hb2.alloc hb2.size _).mono (by omega))
        have hs3 : W.heap.size ≤ (w2.alloc (.cells #[.int .u8 a0, .string a1, .int .u64 a2, .int .i64 a3, .int .i64 (M : Int), .int .i64 0, .int .i64 a6] 79)).heap.size := Nat.le_trans hsz (hb2.alloc hb2.size _).size
        have HS3 : Hid _ := hs3
        have HB3 : Hid ((w2.alloc (.cells #[.int .u8 a0, .string a1, .int .u64 a2, .int .i64 a3, .int .i64 (M : Int), .int .i64 0, .int .i64 a6] 79)).heap[Bn]? = some (.cells #[.string s] 9 (0, 0))) := by unfold Hid; rw [(hb2.alloc hb2.size _).block Bn (by omega)]; exact HBR.out
        clear hg2 hJ3 hb2 hs3
        gi_wp2
        refine hR.mono ?_
        rintro e W3 (⟨rfl, hJ4, hk4⟩ | ⟨rfl, hJx4⟩)
        · have hblk := hk4.2 w2.heap.size _ _ _ (.inl rfl) (heap_alloc_new w2 _)
          have d4 : W3.cell? ⟨w2.heap.size, 4, none⟩ = some (.int .i64 (M : Int)) := cell_of_row _ _ 4 _ _ _ hblk
          have d5 : W3.cell? ⟨w2.heap.size, 5, none⟩ = some (.int .i64 0) := cell_of_row _ _ 5 _ _ _ hblk
          have BL4 : Hid (Below n₀ W W3) := BL3.out.trans hk4.1
          have hs4 : W.heap.size ≤ W3.heap.size := Nat.le_trans HS3.out hk4.1.size
          have HB4 : Hid (W3.heap[Bn]? = some (.cells #[.string s] 9 (0, 0))) := hk4.2 Bn _ _ _ (.inr rfl) HB3.out
          have hc3 : W3.cell? ⟨Bn, 0, none⟩ = some (.string s) := cell_of_row _ _ 0 _ _ _ HB4.out
          have HJ4 : Hid (J (pre ++ [x]) W3) := hJ4
          clear hblk hk4 hJ4 hR hy
          gi_wp2_with fail
          refine ⟨trivial, (callsIn_wide.2 (xskip_as s M M P2 rfl (by omega) h hP2.out _)).mono ?_⟩
          rintro e w5 ⟨rfl, hb5⟩
          have HJ5 : Hid (J (pre ++ [x]) w5) := HJ.out _ W3 w5 none HJ4.out (grown_of_below hb5) (fun r e => by cases e)
          have BL5 : Hid (Below n₀ W w5) := BL4.out.trans (hb5.mono (by omega))
          have hs5 : W.heap.size ≤ w5.heap.size := Nat.le_trans hs4 hb5.size
          have HB5 : Hid (w5.heap[Bn]? = some (.cells #[.string s] 9 (0, 0))) := by unfold Hid; rw [hb5.block Bn (by omega)]; exact HB4.out
          clear hb5
          gi_wp2
          go_roundw
          case rel => exact ⟨pre ++ [x], M, P2, by omega, hP2.out.symm, rfl, HX2.out, HJ5.out, BL5.out, hs5, HB5.out⟩
          case measure => simp [intOf]; omega
        · gi_wp2
          refine bodyPost_ret (results_none rfl _ _ _) rfl ?_
          exact ⟨⟨_, rfl⟩, .inr ⟨pre ++ [x], ⟨_, HX2.out.symm⟩, hJx4⟩⟩
      · have hok' : okF x = false := by simpa using hok
        have h5 := shape_no hsh hok'
        have HX2 : Hid (pre ++ [x] = xs) := by
          unfold Hid
          rw [HX.out, SC_no _ _ HNE.out (by rw [HXM.out]; exact hok'), HXM.out]
        clear hsh hok hok'
        gi_wp2_with fail
        refine ⟨trivial, (callsIn_wide.2 (xread_as s P P rfl hlt h _ (HL.out.below BL.out hG))).mono ?_⟩
        rintro e w2 ⟨rfl, hb2⟩
        rw [HSH.out]
        have hg2 : wr.grownBy (w2.alloc (.cells #[.int .u8 a0, .string a1, .int .u64 a2, .int .i64 a3, .int .i64 a4, .int .i64 a5, .int .i64 a6] 79)) none := grown_of_below (hb2.alloc hb2.size _)
        have hJ3 := HJ.out pre wr _ none HJP.out hg2 (fun r e => by cases e)
        have hy0 := HY.out pre x _ hJ3 hlen
        rw [HSX.out] at hy0
        obtain ⟨fn, tmps, assign, body, hy, hR⟩ := hy0
        clear hg2 hJ3 hb2
        gi_wp2
        refine hR.mono ?_
        rintro e W3 (⟨rfl, hJ4, hk4⟩ | ⟨rfl, hJx4⟩)
        · have hblk := hk4.2 w2.heap.size _ _ _ (.inl rfl) (heap_alloc_new w2 _)
          have d5 : W3.cell? ⟨w2.heap.size, 5, none⟩ = some (.int .i64 a5) := cell_of_row _ _ 5 _ _ _ hblk
          have HJ4 : Hid (J (pre ++ [x]) W3) := hJ4
          clear hblk hk4 hJ4 hR hy
          gi_wp2
          refine bodyPost_ret (results_none rfl _ _ _) rfl ?_
          exact ⟨⟨_, rfl⟩, .inl ⟨pre ++ [x], HX2.out, HJ4.out⟩⟩
        · gi_wp2
          refine bodyPost_ret (results_none rfl _ _ _) rfl ?_
          exact ⟨⟨_, rfl⟩, .inr ⟨pre ++ [x], ⟨[], by rw [List.append_nil]; exact HX2.out⟩, hJx4⟩⟩
    · have hPe : P = s.size := by omega
      have HE : Hid (pre = xs) := by
        unfold Hid; rw [HX.out, SC_end _ _ (by rw [HDD.out, hPe, drop_size]), List.append_nil]
      gi_wp2
      go_end0
      exact ⟨⟨_, rfl⟩, .inl ⟨pre, HE.out, HJP.out⟩⟩
theorem xscan_in (n : Nat) (s : ByteArray) (w : World) :
    CallsIn Fence.wide n Tryz.prog 57 #[.string s] w fun e w' => e = .returned (.func (.func 74) #[] #[.pointer (some ⟨w.heap.size, 0, none⟩)]) ∧ w' = w.alloc (.cells #[.string s] 9) := by
  refine callsIn_of_wp Tryz.func57 rfl trivial ?_ rfl
  simp only [Tryz.ntmps57, List.size_toArray, List.length_cons, List.length_nil, Nat.reduceAdd, Nat.reduceSub, Array.replicate_succ, Array.replicate_zero, List.push_toArray, List.append_toArray, List.nil_append, List.cons_append]
  gi_wp2
  go_ret
  exact ⟨rfl, rfl⟩
theorem scan_stops (n : Nat) (hn : 1 ≤ n) (Bn n₀ : Nat) (s : ByteArray) (h : s.size ≤ 1048576) (w : World) (hn₀ : n₀ ≤ w.heap.size) (hG : 2 < n₀) (hc : w.heap[Bn]? = some (.cells #[.string s] 9 (0, 0))) (hL : Laid w) :
    SeqStopsK Fence.wide n Tryz.prog 74 #[.pointer (some ⟨Bn, 0, none⟩)] (fun x : Fnd => #[foundV x.1.1 x.1.2]) (KF n₀) (fun ys => ys = SC 0 (bytesN s)) (fun pre => pre <+: SC 0 (bytesN s)) (SC 0 (bytesN s)).length w := fun l J Jx W hW hJ _ hY h0 =>
  scan1_in n hn l Bn n₀ s h _ rfl J Jx W hJ hY (by unfold Hid; rw [hW.block Bn (Array.getElem?_eq_some_iff.1 hc).1]; exact hc) (Nat.le_trans hn₀ hW.size) hG (hL.on hW) h0
theorem KF.trans {n₀ : Nat} {A B C : World} (h : KF n₀ A B) (k : KF n₀ B C) : KF n₀ A C := ⟨h.1.trans k.1, fun b cs t fr ht hb => k.2 b cs t fr ht (h.2 b cs t fr ht hb)⟩
theorem KF.putObj {n₀ : Nat} {w : World} (hn : n₀ ≤ w.heap.size) (W : World) (l : Nat) (o o' : Obj) (hl : w.heap.size ≤ l) (h : W.heap[l]? = some o) (hc : o.isCells = false) (hw : o.isWalk = false) : KF n₀ W (W.putObj l o') :=
  ⟨belowK_b hn W l o o' hl h hc hw, fun b cs t fr _ hb => by
    rw [(grownBy_putObj' W l o').block b (Array.getElem?_eq_some_iff.1 hb).1 (fun e => by cases e; rw [h] at hb; cases hb; cases hc)]; exact hb⟩
open Go.RowKit Go.Shelf
attribute [local go_sem] Oper.semAt_some
def FndAt (W : World) (B : Nat) (x : Fnd) : Prop := ∃ (a0 : Int) (a1 : ByteArray) (a2 a3 a4 a5 a6 : Int), foundV x.1.1 x.1.2 = .agg #[.int .u8 a0, .string a1, .int .u64 a2, .int .i64 a3, .int .i64 a4, .int .i64 a5, .int .i64 a6] ∧
  W.heap[B]? = some (.cells #[.int .u8 a0, .string a1, .int .u64 a2, .int .i64 a3, .int .i64 a4, .int .i64 a5, .int .i64 a6] 79 (0, 0))
def IT (w : World) (g : Nat) (pre : List Fnd) (W : World) : Prop :=
  (∃ v, Boxed W (g + 3) 61 v ∧ W.ownsRow g 77 5 v pre.length (rowT (pre.map tokF)) ∧ True) ∧ (Boxed W g 61 (.slice none 0 0) ∧ Boxed W (g + 1) 3 (.int .i64 0) ∧ Boxed W (g + 2) 28 (.int .i64 0)) ∧ (Below g w W ∧ g + 5 ≤ W.heap.size) ∧ ((∀ x ∈ pre, okF x = true) ∧ pre.length ≤ 32768)
def IXT (w : World) (g : Nat) (c : Code) (pre : List Fnd) (W : World) : Prop :=
  ∃ (P K : Nat), (Boxed W g 61 (.slice none 0 0) ∧ Boxed W (g + 1) 3 (.int .i64 (P : Int)) ∧ Boxed W (g + 2) 28 (.int .i64 (K : Int))) ∧ Below g w W ∧ c = .ret ∧
    ∃ (pre' : List Fnd) (x : Fnd), pre = pre' ++ [x] ∧ (∀ x ∈ pre', okF x = true) ∧ ((pre'.length = 32768 ∧ P = x.1.1 ∧ K = 3) ∨ (pre'.length < 32768 ∧ ∃ q, x.1.2 = .error (q, K) ∧ P = x.1.1 + q))
theorem it_own (w : World) (g B : Nat) (hg : g ≤ w.heap.size) (hB : g ≤ B) : OwnFrom B (IT w g) :=
  OwnFrom.and (Own.from (holdsRow_own g (g + 3) 61 77 5 (fun (pre : List Fnd) => pre.length) (fun (pre : List Fnd) => rowT (pre.map tokF)) (fun _ _ => True)) _)
    (OwnFrom.and (OwnFrom.and (Own.from (boxed_own _ _ (fun _ => Value.slice none 0 0)) _) (OwnFrom.and (Own.from (boxed_own _ _ (fun _ => Value.int .i64 0)) _) (Own.from (boxed_own _ _ (fun _ => Value.int .i64 0)) _)))
      (OwnFrom.and (OwnFrom.and (ownFrom_below hg hB) (fun _ _ _ _ hs hgr _ => Nat.le_trans hs hgr.size)) (ownFrom_pure _ _)))
theorem ixt_own (w : World) (g B : Nat) (hg : g ≤ w.heap.size) (hB : g ≤ B) (c : Code) : OwnFrom B (IXT w g c) := by
  rintro s X Y row ⟨P, K, ⟨b1, b2, b3⟩, hb, hrest⟩ hgr hr
  exact ⟨P, K, ⟨boxed_own _ _ (fun (_ : Unit) => Value.slice none 0 0) () X Y row b1 hgr (fun r e => (hr r e).2), boxed_own _ _ (fun (_ : Unit) => Value.int .i64 (P : Int)) () X Y row b2 hgr (fun r e => (hr r e).2), boxed_own _ _ (fun (_ : Unit) => Value.int .i64 (K : Int)) () X Y row b3 hgr (fun r e => (hr r e).2)⟩,
    ownFrom_below (β := Unit) hg hB () X Y row hb hgr hr, hrest⟩
theorem fnd_own (Bx B : Nat) (x : Fnd) : OwnFrom B (fun (_ : Unit) W => FndAt W Bx x) := by
  rintro _ X Y row ⟨a0, a1, a2, a3, a4, a5, a6, hsh, hb⟩ hg hr
  refine ⟨a0, a1, a2, a3, a4, a5, a6, hsh, ?_⟩
  rw [hg.block Bx (Array.getElem?_eq_some_iff.1 hb).1 (fun e => by obtain ⟨_, o, ho, hc⟩ := hr Bx e.symm; rw [hb] at ho; cases ho; cases hc)]
  exact hb
theorem KF.alloc {g : Nat} {A W : World} (h : KF g A W) (hg : g ≤ W.heap.size) (o : Obj) : KF g A (W.alloc o) :=
  ⟨h.1.alloc hg o, fun b cs t fr ht hb => by
    have h2 := h.2 b cs t fr ht hb
    rw [Below.heap_alloc W o b (Array.getElem?_eq_some_iff.1 h2).1]; exact h2⟩
theorem shape_at {x : Fnd} {a0 : Int} {a1 : ByteArray} {a2 a3 a4 a5 a6 : Int} (h : foundV x.1.1 x.1.2 = .agg #[.int .u8 a0, .string a1, .int .u64 a2, .int .i64 a3, .int .i64 a4, .int .i64 a5, .int .i64 a6]) : a3 = (x.1.1 : Int) := by
  obtain ⟨⟨p, o⟩, hx⟩ := x
  match o with
  | .ok (kd, tx, n, len) =>
    simp only [foundV, foundOk, Value.agg.injEq, Array.mk.injEq, List.cons.injEq, Value.int.injEq, true_and, and_true] at h
    exact h.2.2.2.1.symm
  | .error (q, e) =>
    simp only [foundV, foundNo, Value.agg.injEq, Array.mk.injEq, List.cons.injEq, Value.int.injEq, true_and, and_true] at h
    exact h.2.2.2.1.symm
theorem shape_err {x : Fnd} {a0 : Int} {a1 : ByteArray} {a2 a3 a4 a5 a6 : Int} (h : foundV x.1.1 x.1.2 = .agg #[.int .u8 a0, .string a1, .int .u64 a2, .int .i64 a3, .int .i64 a4, .int .i64 a5, .int .i64 a6]) (hok : okF x = false) : ∃ q e : Nat, x.1.2 = .error (q, e) ∧ a5 = (e : Int) ∧ a6 = ((x.1.1 + q : Nat) : Int) := by
  obtain ⟨⟨p, o⟩, hx⟩ := x
  match o with
  | .ok (kd, tx, n, len) => simp [okF, okX] at hok
  | .error (q, e) =>
    simp only [foundV, foundNo, Value.agg.injEq, Array.mk.injEq, List.cons.injEq, Value.int.injEq, true_and, and_true] at h
    exact ⟨q, e, rfl, h.2.2.2.2.2.1.symm, h.2.2.2.2.2.2.symm⟩
theorem shape_tok {x : Fnd} {a0 : Int} {a1 : ByteArray} {a2 a3 a4 a5 a6 : Int} (h : foundV x.1.1 x.1.2 = .agg #[.int .u8 a0, .string a1, .int .u64 a2, .int .i64 a3, .int .i64 a4, .int .i64 a5, .int .i64 a6]) (hok : okF x = true) : [Value.int .u8 a0, .string a1, .int .u64 a2, .int .i64 a3, .int .i64 a4] = cellsT (tokF x) := by
  obtain ⟨⟨p, o⟩, hx⟩ := x
  match o with
  | .ok (kd, tx, n, len) =>
    simp only [foundV, foundOk, Value.agg.injEq, Array.mk.injEq, List.cons.injEq, Value.int.injEq, true_and, and_true] at h
    obtain ⟨h0, h1, h2, h3, h4, _⟩ := h
    subst h0; subst h2; subst h3; subst h4
    obtain h1 := Value.string.inj h1
    subst h1
    rfl
  | .error (q, e) => simp [okF, okX] at hok
theorem wpListIn_appT {F : Fence} {m : Nat} {W : World} {ops : Array Oper} {rest : List Oper} {o : Oper} {a : Act} {Q : Exit → Act → World → Prop} (hgd : o.guard = none) (s x : Operand)
    (ho : o.op = .call { callee := .builtin .append, args := #[s, x], argTypes := #[61, 61] })
    (base : Nat) (v : Value) (n : Nat) (xs : List (Nat × List Nat × Nat × Nat × Nat)) (hs : a.eval s = v) (hown : W.ownsRow base 77 5 v n (rowT xs)) (t : Nat × List Nat × Nat × Nat × Nat)
    (b : Nat) (hx : a.eval x = .slice (some ⟨b, 0, none⟩) 1 1) (cs : Array Value) (fr : Nat × Nat) (hb : W.heap[b]? = some (.cells cs 77 fr)) (hcs : cs.toList = cellsT t)
    (h63 : n + 1 ≤ 1048576) (hbase : base ≤ W.heap.size)
    (h : ∀ v' w', w'.ownsRow base 77 5 v' (n + 1) (rowT (xs ++ [t])) → W.grownBy w' v.ownBlock → wpListIn F m Tryz.prog ops Q rest (a.put o.dst v') w') :
    wpListIn F m Tryz.prog ops Q (o :: rest) a W := by
  obtain ⟨i8, hi, hz0, hz1, hz2⟩ := info_parts info35
  refine wpListIn_append_own _ hgd s x 61 ho base 77 i8 _ 5 48 Tryz.underlying61 hi hz0 hz1 hz2 rfl (by omega) v n (rowT xs) hs hown ⟨b, 0, none⟩ 1 1 (rowT [t]) hx (by rw [rowT_length]; rfl) ?_ ?_ (by unfold maxLen; omega) (by omega) hbase ?_
  · intro j u hu
    have e : rowT [t] = cs.toList := by rw [hcs]; simp [rowT]
    rw [e] at hu
    have hadd : (⟨b, 0, none⟩ : Addr).add j = ⟨b, j, none⟩ := by unfold Addr.add; split <;> simp_all
    rw [hadd, cell_of_row _ b j _ 77 _ hb]
    simpa using hu
  · intro u hu
    simp [rowT, cellsT] at hu
    rcases hu with rfl | rfl | rfl | rfl | rfl <;> rfl
  · intro v' w' h1 h2 _
    rw [← rowT_append] at h1
    exact h v' w' h1 h2
theorem row_block {W : World} {base e size k b : Nat} {v : Value} {xs : List Value} {cs : Array Value} {t : TypeId} {fr : Nat × Nat} (hrow : W.ownsRow base e size v k xs) (hb : W.heap[b]? = some (.cells cs t fr)) (hte : t ≠ e) : some b ≠ v.ownBlock := by
  rcases hrow.2 with ⟨rfl, _⟩ | ⟨g, cap, cur, rfl, _, hgb, _⟩
  · simp [Value.ownBlock]
  · intro e'
    obtain rfl : b = g := by simpa [Value.ownBlock] using e'
    rw [hgb] at hb
    cases hb
    exact hte rfl
theorem kf_appended {W w1 : World} {g k : Nat} {v v' : Value} {xs : List Value} {tmp : Obj} (hv : Boxed W (g + 3) 61 v) (hrow : W.ownsRow g 77 5 v k xs) (hgrow : (W.alloc tmp).grownBy w1 v.ownBlock) (hbel : Below g W (w1.setCell ⟨g + 3, 0, none⟩ v')) : KF g W (w1.setCell ⟨g + 3, 0, none⟩ v') := by
  refine ⟨hbel, fun b cs t fr ht hb => ?_⟩
  have hlt := (Array.getElem?_eq_some_iff.1 hb).1
  have hne : b ≠ g + 3 := by
    intro e; subst e
    rw [show W.heap[g + 3]? = _ from hv] at hb
    cases hb
    rcases ht with ht | ht <;> exact absurd ht (by decide)
  rw [Below.heap_setCell _ _ _ _ hne, hgrow.block b (by rw [World.size_alloc]; omega) (row_block hrow hb (by rcases ht with rfl | rfl <;> decide)), Below.heap_alloc W tmp b hlt]
  exact hb
theorem xtok_results {W : World} {g : Nat} {v : Value} {y z : Int} {tmps : Array Value} (h2 : tmps.getD 2 undef = .pointer (some ⟨g, 0, none⟩)) (h3 : tmps.getD 3 undef = .pointer (some ⟨g + 1, 0, none⟩)) (h4 : tmps.getD 4 undef = .pointer (some ⟨g + 2, 0, none⟩))
    (c0 : Boxed W g 61 v) (c1 : Boxed W (g + 1) 3 (.int .i64 y)) (c2 : Boxed W (g + 2) 28 (.int .i64 z)) : (results Tryz.f46 tmps).run Tryz.prog W = .ok (.tuple #[v, .int .i64 y, .int .i64 z]) W := by
  have d0 := c0.cell
  have d1 := c1.cell
  have d2 := c2.cell
  have h2' : tmps[2]?.getD undef = .pointer (some ⟨g, 0, none⟩) := by simpa using h2
  have h3' : tmps[3]?.getD undef = .pointer (some ⟨g + 1, 0, none⟩) := by simpa using h3
  have h4' : tmps[4]?.getD undef = .pointer (some ⟨g + 2, 0, none⟩) := by simpa using h4
  simp [results, Tryz.results46, h2', h3', h4', asAddr, loadVar, go_sem, d0, d1, d2]
theorem ixt_mk {w W : World} {g : Nat} {u0 u1 u2 : Value} {P K : Nat} {y z : Int} (hy : y = (P : Int)) (hz : z = (K : Int)) {pre' : List Fnd} {x : Fnd} (c0 : Boxed W g 61 u0) (c1 : Boxed W (g + 1) 3 u1) (c2 : Boxed W (g + 2) 28 u2) (hbel : Below g w W)
    (hok : ∀ x ∈ pre', okF x = true) (hd : (pre'.length = 32768 ∧ P = x.1.1 ∧ K = 3) ∨ (pre'.length < 32768 ∧ ∃ q, x.1.2 = .error (q, K) ∧ P = x.1.1 + q)) :
    IXT w g .ret (pre' ++ [x]) (((W.setCell ⟨g, 0, none⟩ (.slice none 0 0)).setCell ⟨g + 1, 0, none⟩ (.int .i64 y)).setCell ⟨g + 2, 0, none⟩ (.int .i64 z)).drew := by
  subst hy; subst hz
  refine ⟨P, K, ⟨?_, ?_, ?_⟩, ?_, rfl, pre', x, rfl, hok, hd⟩
  · exact ((c0.set _).other (by omega) _).other (by omega) _
  · exact ((c1.other (by omega) _).set _).other (by omega) _
  · exact ((c2.other (by omega) _).other (by omega) _).set _
  · exact (((hbel.setCell (p := ⟨g, 0, none⟩) (Nat.le_refl _) _).setCell (p := ⟨g + 1, 0, none⟩) (Nat.le_succ _) _).setCell (p := ⟨g + 2, 0, none⟩) (Nat.le_add_right _ _) _).drew
theorem keeps3 (B : Nat) (W : World) (p q r : Nat) (u v t : Value) : KeepsFrom B W (((W.setCell ⟨p, 0, none⟩ u).setCell ⟨q, 0, none⟩ v).setCell ⟨r, 0, none⟩ t).drew :=
  ((((KeepsOthers.setCell _ _ _).trans (KeepsOthers.setCell _ _ _)).trans (KeepsOthers.setCell _ _ _)).trans (KeepsOthers.drew _)).from B
theorem KF.refl (g : Nat) (W : World) : KF g W W := ⟨Below.refl _ _, fun _ _ _ _ _ hb => hb⟩
theorem xtokens_in (s : ByteArray) (h : s.size ≤ 65536) (TT : Except (Nat × Nat) (List (Nat × List Nat × Nat × Nat × Nat))) (HTT : Hid (tkF 0 (SC 0 (bytesN s)) = TT)) (w : World) (HL : Hid (Laid w)) :
    CallsIn Fence.wide 6 Tryz.prog 46 #[.string s] w fun e w' => TokGives w TT e w' := by
  obtain ⟨i0, hi, hz0, hz1, hz2⟩ := info_parts info35
  obtain ⟨g, hg⟩ : ∃ g, g = w.heap.size := ⟨_, rfl⟩
  have HG : Hid (g = w.heap.size) := hg
  refine callsIn_of_wp_marks Tryz.func46 rfl trivial ?_ rfl
  simp only [Tryz.ntmps46, List.size_toArray, List.length_cons, List.length_nil, Nat.reduceAdd, Nat.reduceSub, Array.replicate_succ, Array.replicate_zero, List.push_toArray, List.append_toArray, List.nil_append, List.cons_append]
  gi_wp2_with fail
  refine ⟨trivial, (xscan_in _ s _).mono ?_⟩
  rintro e w1 ⟨rfl, hw1⟩
  simp only [World.size_alloc, Nat.add_assoc, Nat.reduceAdd]
  rw [← hg]
  have b0 : Boxed w1 g 61 (.slice none 0 0) := by rw [hw1, hg]; exact ((((Boxed.new w 61 _).alloc _).alloc _).alloc _).alloc _
  have b1 : Boxed w1 (g + 1) 3 (.int .i64 0) := by
    have := ((((Boxed.new (w.alloc (.cells #[.slice none 0 0] 61)) 3 (.int .i64 0))).alloc (.cells #[.int .i64 0] 28)).alloc (.cells #[.slice none 0 0] 61)).alloc (.cells #[.string s] 9)
    rw [World.size_alloc] at this
    rw [hw1, hg]; exact this
  have b2 : Boxed w1 (g + 2) 28 (.int .i64 0) := by
    have := (((Boxed.new ((w.alloc (.cells #[.slice none 0 0] 61)).alloc (.cells #[.int .i64 0] 3)) 28 (.int .i64 0))).alloc (.cells #[.slice none 0 0] 61)).alloc (.cells #[.string s] 9)
    simp only [World.size_alloc] at this
    rw [hw1, hg]; exact this
  have b3 : Boxed w1 (g + 3) 61 (.slice none 0 0) := by
    have := (((Boxed.new (((w.alloc (.cells #[.slice none 0 0] 61)).alloc (.cells #[.int .i64 0] 3)).alloc (.cells #[.int .i64 0] 28)) 61 (.slice none 0 0)))).alloc (.cells #[.string s] 9)
    simp only [World.size_alloc] at this
    rw [hw1, hg]; exact this
  have b4 : w1.heap[g + 4]? = some (.cells #[.string s] 9 (0, 0)) := by
    have := Boxed.new ((((w.alloc (.cells #[.slice none 0 0] 61)).alloc (.cells #[.int .i64 0] 3)).alloc (.cells #[.int .i64 0] 28)).alloc (.cells #[.slice none 0 0] 61)) 9 (.string s)
    simp only [World.size_alloc] at this
    rw [hw1, hg]; exact this
  have hsz : w1.heap.size = g + 5 := by rw [hw1, hg]; simp only [World.size_alloc]
  have hB0 : Below g w w1 := by
    rw [hw1, hg]
    exact (((((Below.refl _ w).alloc (Nat.le_refl _) _).alloc (by simp) _).alloc (by simp; omega) _).alloc (by simp; omega) _).alloc (by simp; omega) _
  have hL1 : Laid w1 := HL.out.below hB0 (by rw [hg]; exact HL.out.1)
  have hGg : 2 < g := by rw [hg]; exact HL.out.1
  clear hw1 hg
  have hgw : g ≤ w.heap.size := by rw [HG.out]; exact Nat.le_refl _
  gi_wp2_with fail
  refine wpIn_rangeFunc_ownH (F := Fence.wide) rfl (by omega) (gf := 74) (lb := #[.pointer (some ⟨g + 4, 0, none⟩)]) rfl trivial (enters_of Tryz.func74 (by kernel_rfl) rfl)
    (scan_stops 5 (by omega) (g + 4) g s (by omega) w1 (by omega) hGg b4 hL1) KF.trans (KF.putObj (by omega)) (Below.refl _ _) (fun _ => rfl)
    (IT w g) (IXT w g) (it_own w g _ hgw (by omega)) (ixt_own w g _ hgw (by omega))
    ⟨⟨_, b3, World.ownsRow_nil _ _ _ _, trivial⟩, ⟨b0, b1, b2⟩, ⟨hB0, by omega⟩, by simp, by simp⟩
    (fun x a' W => ∃ Bx, g + 4 < Bx ∧ FndAt W Bx x ∧ a' = { tmps := #[.string s, undef, .pointer (some ⟨g, 0, none⟩), .pointer (some ⟨g + 1, 0, none⟩), .pointer (some ⟨g + 2, 0, none⟩), .pointer (some ⟨g + 3, 0, none⟩), .pointer (some ⟨Bx, 0, none⟩), .string s, .int .i64 (s.size : Int), .bool (decide (65536 < (s.size : Int))), .string s, .func (.func 74) #[] #[.pointer (some ⟨g + 4, 0, none⟩)], foundV x.1.1 x.1.2, undef, undef, undef, undef, undef, undef, undef, undef, undef, undef, undef, undef, undef, undef, undef, undef, undef, undef, undef, undef, undef], defers := [] })
    (fun x a' _ X Y row hs hg hr => by obtain ⟨Bx, h1, h2, h3⟩ := hs; exact ⟨Bx, h1, fnd_own Bx _ x () X Y row h2 hg hr, h3⟩)
    ?assign ?body ?done ?stop
  case assign =>
    rintro l pre x W K hI hK
    obtain ⟨a0, a1, a2, a3, a4, a5, a6, hsh⟩ := foundV_shape x.1.1 x.1.2
    have hgW : g ≤ W.heap.size := Nat.le_trans hgw hI.2.2.1.1.size
    have hB4 : g + 4 < W.heap.size := by have := hI.2.2.1.2; omega
    have HK : Hid _ := hK
    clear hK
    rw [hsh]
    gi_wp2
    rw [← hsh]
    exact HK.out _ _ ((KeepsOthers.alloc _ _).from _) ((KF.refl g W).alloc hgW _) ((it_own w g _ hgw (by omega)).alloc _ hI) ⟨W.heap.size, hB4, ⟨a0, a1, a2, a3, a4, a5, a6, hsh, heap_alloc_new W _⟩, rfl⟩
  case body =>
    rintro l pre x a' W hl ⟨r, hr⟩ ⟨⟨v, hv, hrow, _⟩, ⟨c0, c1, c2⟩, ⟨hbel, hgs⟩, hok, hlen⟩ ⟨Bx, hBx, ⟨a0, a1, a2, a3, a4, a5, a6, hsh, hfb⟩, rfl⟩ hlt
    obtain ⟨ao, cap, rfl⟩ := own_form hrow
    by_cases hfull : pre.length = 32768
    · have hv' := hv.cell
      have hx3 : W.cell? ⟨Bx, 3, none⟩ = some (.int .i64 a3) := cell_of_row _ _ 3 _ _ _ hfb
      have d0 := c0.cell
      have d1 := c1.cell
      have d2 := c2.cell
      have e0 := c0.frozen
      have e1 := c1.frozen
      have e2 := c2.frozen
      have h3 := shape_at hsh
      have HFL : Hid (pre.length = 32768) := hfull
      have H3 : Hid (a3 = (x.1.1 : Int)) := h3
      have HOK : Hid (∀ x ∈ pre, okF x = true) := hok
      rw [hfull] at hv'
      clear h3 hfull
      gi_wp2
      gi_region
      all_goals gi_wp2
      all_goals exact ⟨keeps3 _ _ _ _ _ _ _ _, ixt_mk (K := 3) H3.out rfl c0 c1 c2 hbel HOK.out (.inl ⟨HFL.out, rfl, rfl⟩)⟩
    · obtain ⟨n, hn⟩ : ∃ n, Hid (pre.length = n) := ⟨_, rfl⟩
      rw [hn.out] at hv hrow
      have hf0 : ((n : Int) == 32768) = false := by have := hn.out; simp; omega
      have hn2 : n < 32768 := by have := hn.out; omega
      have hv' := hv.cell
      by_cases hokx : okF x = true
      · have h5 := (shape_ok hsh hokx).1
        have hct := shape_tok hsh hokx
        have HCT : Hid ([Value.int .u8 a0, .string a1, .int .u64 a2, .int .i64 a3, .int .i64 a4] = cellsT (tokF x)) := hct
        have HOK : Hid (∀ y ∈ pre ++ [x], okF y = true) := by
          intro y hy
          rcases List.mem_append.1 hy with hy | hy
          · exact hok y hy
          · rw [List.mem_singleton.1 hy]; exact hokx
        have HV : Hid (Boxed W (g + 3) 61 (.slice ao n cap)) := hv
        have HRW : Hid (W.ownsRow g 77 5 (.slice ao n cap) n (rowT (pre.map tokF))) := hrow
        have hx0 : W.cell? ⟨Bx, 0, none⟩ = some (.int .u8 a0) := cell_of_row _ _ 0 _ _ _ hfb
        have hx1 : W.cell? ⟨Bx, 1, none⟩ = some (.string a1) := cell_of_row _ _ 1 _ _ _ hfb
        have hx2 : W.cell? ⟨Bx, 2, none⟩ = some (.int .u64 a2) := cell_of_row _ _ 2 _ _ _ hfb
        have hx3 : W.cell? ⟨Bx, 3, none⟩ = some (.int .i64 a3) := cell_of_row _ _ 3 _ _ _ hfb
        have hx4 : W.cell? ⟨Bx, 4, none⟩ = some (.int .i64 a4) := cell_of_row _ _ 4 _ _ _ hfb
        have hx5 : W.cell? ⟨Bx, 5, none⟩ = some (.int .i64 0) := by rw [← h5]; exact cell_of_row _ _ 5 _ _ _ hfb
        have hgW : g ≤ W.heap.size := by omega
        have HGW : Hid (g ≤ (W.alloc (.cells #[.int .u8 a0, .string a1, .int .u64 a2, .int .i64 a3, .int .i64 a4] 77)).heap.size) := by unfold Hid; rw [World.size_alloc]; omega
        clear hct h5 hokx hfull hsh hok hv hrow hfb
        gi_wp2_with (gi_at_builtin; refine wpListIn_appT rfl (.tmp 28) (.tmp 31) rfl g _ n (pre.map tokF) rfl (HRW.out.alloc _) (tokF x) W.heap.size rfl _ _ (heap_alloc_new W _) HCT.out (by omega) HGW.out ?_; intro v' w2 hown' hgrow; obtain ⟨g', cap', rfl⟩ := ownsRow_succ hown'; obtain ⟨hv1, hv2, hr2, hk2, hb2⟩ := HV.out.appended (by decide) HRW.out hgW (Nat.le_add_right _ _) hown' hgrow; have hc1 := hv1.cell; have hf1 := hv1.frozen; have HG4 : Hid _ := hgrow; have HK2 : Hid _ := hk2; have HV2 : Hid _ := hv2; have HR2 : Hid _ := hr2; have HB2 : Hid _ := hb2; clear hown' hgrow hv1 hv2 hr2 hk2 hb2)
        refine ⟨HK2.out.from _, kf_appended HV.out HRW.out HG4.out HB2.out, ⟨_, HV2.out, ?_, trivial⟩, ⟨?_, ?_, ?_⟩, ⟨hbel.trans HB2.out, Nat.le_trans hgs HB2.out.size⟩, HOK.out, by rw [List.length_append, hn.out]; simp; omega⟩
        · rw [List.length_append, hn.out, List.map_append]; exact HR2.out
        · exact ((c0.alloc _).kept HG4.out (c0.not_row (by decide) HRW.out)).other (by omega) _
        · exact ((c1.alloc _).kept HG4.out (c1.not_row (by decide) HRW.out)).other (by omega) _
        · exact ((c2.alloc _).kept HG4.out (c2.not_row (by decide) HRW.out)).other (by omega) _
      · have hok' : okF x = false := by simpa using hokx
        obtain ⟨q, e, hq, h5, h6⟩ := shape_err hsh hok'
        have h50 := shape_no hsh hok'
        have HD : Hid ((pre.length = 32768 ∧ x.1.1 + q = x.1.1 ∧ e = 3) ∨ (pre.length < 32768 ∧ ∃ q', x.1.2 = .error (q', e) ∧ x.1.1 + q = x.1.1 + q')) := .inr ⟨by have := hn.out; omega, q, hq, rfl⟩
        have H5 : Hid (a5 = (e : Int)) := h5
        have H6 : Hid (a6 = ((x.1.1 + q : Nat) : Int)) := h6
        have HOK : Hid (∀ x ∈ pre, okF x = true) := hok
        have hx5 : W.cell? ⟨Bx, 5, none⟩ = some (.int .i64 a5) := cell_of_row _ _ 5 _ _ _ hfb
        have hx6 : W.cell? ⟨Bx, 6, none⟩ = some (.int .i64 a6) := cell_of_row _ _ 6 _ _ _ hfb
        have d0 := c0.cell
        have d1 := c1.cell
        have d2 := c2.cell
        have e0 := c0.frozen
        have e1 := c1.frozen
        have e2 := c2.frozen
        clear hq h5 h6 hokx hok' hfull hsh hok
        gi_wp2
        gi_region
        all_goals gi_wp2
        all_goals exact ⟨keeps3 _ _ _ _ _ _ _ _, ixt_mk H6.out H5.out c0 c1 c2 hbel HOK.out HD.out⟩
  case done =>
    rintro D ys W hD rfl ⟨⟨v, hv, hrow, _⟩, ⟨c0, c1, c2⟩, ⟨hbel, hgs⟩, hok, hlen⟩ hK
    obtain ⟨ao, cap, rfl⟩ := own_form hrow
    have HX : Hid (TT = .ok ((SC 0 (bytesN s)).map tokF)) := by unfold Hid; rw [← HTT.out]; exact tk_all _ hok hlen
    have hv' := hv.cell
    have d0 := c0.cell
    have d1 := c1.cell
    have d2 := c2.cell
    have e0 := c0.frozen
    have e1 := c1.frozen
    have e2 := c2.frozen
    gi_wp2
    have k0 := ((c0.set (.slice ao (SC 0 (bytesN s)).length cap)).other (B' := g + 1) (by omega) (.int .i64 0)).other (B' := g + 2) (by omega) (.int .i64 0)
    have k1 := ((c1.other (B' := g) (by omega) (.slice ao (SC 0 (bytesN s)).length cap)).set (.int .i64 0)).other (B' := g + 2) (by omega) (.int .i64 0)
    have k2 := ((c2.other (B' := g) (by omega) (.slice ao (SC 0 (bytesN s)).length cap)).other (B' := g + 1) (by omega) (.int .i64 0)).set (.int .i64 0)
    have hbl : Below g w (((W.setCell ⟨g, 0, none⟩ (.slice ao (SC 0 (bytesN s)).length cap)).setCell ⟨g + 1, 0, none⟩ (.int .i64 0)).setCell ⟨g + 2, 0, none⟩ (.int .i64 0)) :=
      ((hbel.setCell (p := ⟨g, 0, none⟩) (Nat.le_refl _) _).setCell (p := ⟨g + 1, 0, none⟩) (Nat.le_succ _) _).setCell (p := ⟨g + 2, 0, none⟩) (Nat.le_add_right _ _) _
    have hrw : (((W.setCell ⟨g, 0, none⟩ (.slice ao (SC 0 (bytesN s)).length cap)).setCell ⟨g + 1, 0, none⟩ (.int .i64 0)).setCell ⟨g + 2, 0, none⟩ (.int .i64 0)).ownsRow g 77 5 (.slice ao (SC 0 (bytesN s)).length cap) (SC 0 (bytesN s)).length (rowT ((SC 0 (bytesN s)).map tokF)) := by
      have r0 := hrow.kept (grownBy_setCell' W g (.slice ao (SC 0 (bytesN s)).length cap)) (.inr (c0.not_row (by decide) hrow).symm)
      have r1 := r0.kept (grownBy_setCell' _ (g + 1) (.int .i64 0)) (.inr (c1.not_row (by decide) hrow).symm)
      exact r1.kept (grownBy_setCell' _ (g + 2) (.int .i64 0)) (.inr (c2.not_row (by decide) hrow).symm)
    have hKK := (((KeepsOthers.setCell W ⟨g, 0, none⟩ (.slice ao (SC 0 (bytesN s)).length cap)).trans (KeepsOthers.setCell _ ⟨g + 1, 0, none⟩ (.int .i64 0))).trans (KeepsOthers.setCell _ ⟨g + 2, 0, none⟩ (.int .i64 0))).same D _ hK rfl
    refine ⟨by simp, .inl ⟨_, _, rfl, run_takeDeferred hKK, ?_⟩⟩
    refine ⟨_, xtok_results (g := g) rfl rfl rfl (k0.kept (grownBy_putObj' _ D _) (by intro e; cases e; omega)) (k1.kept (grownBy_putObj' _ D _) (by intro e; cases e; omega)) (k2.kept (grownBy_putObj' _ D _) (by intro e; cases e; omega)), ?_⟩
    rw [HX.out]
    refine ⟨_, rfl, ?_, ?_⟩
    · rw [← HG.out, List.length_map]; exact ownsRow_putObj hrw _ hKK rfl
    · rw [← HG.out]; exact hbl.trans (belowK_b (w := w1) (by omega) _ D _ _ hD hKK rfl rfl)
  case stop =>
    rintro D c pre W hD ⟨rest, hpre⟩ ⟨P, K, ⟨c0, c1, c2⟩, hbel, rfl, pre', x, rfl, hok, hd⟩ hK
    have HX : Hid (TT = .error (P, K)) := by
      unfold Hid; rw [← HTT.out, ← hpre, List.append_assoc]
      rcases hd with ⟨h1, rfl, rfl⟩ | ⟨h1, q, h2, rfl⟩
      · exact tk_limit pre' x rest hok h1
      · exact tk_error pre' x rest q K hok h1 h2
    clear hd hpre
    gi_wp2
    refine ⟨by simp, .inl ⟨_, _, rfl, run_takeDeferred hK, ?_⟩⟩
    refine ⟨_, xtok_results (g := g) rfl rfl rfl (c0.kept (grownBy_putObj' _ D _) (by intro e; cases e; omega)) (c1.kept (grownBy_putObj' _ D _) (by intro e; cases e; omega)) (c2.kept (grownBy_putObj' _ D _) (by intro e; cases e; omega)), ?_⟩
    rw [HX.out]
    exact ⟨rfl, by rw [← HG.out]; exact hbel.trans (belowK_b (w := w1) (by omega) _ D _ _ hD hK rfl rfl)⟩
theorem xtokens_any (s : ByteArray) (h : s.size ≤ 1048576) (TT : Except (Nat × Nat) (List (Nat × List Nat × Nat × Nat × Nat))) (HTT : Hid (tokens (bytesN s) = TT)) (w : World) (hL : Laid w) :
    Calls Tryz.prog 46 #[.string s] w fun e w' => TokGives w TT e w' := by
  by_cases hbig : 65536 < s.size
  · have HX : Hid (TT = .error (0, 3)) := by unfold Hid; rw [← HTT.out]; unfold tokens; rw [if_pos (by rw [bytesN_length]; exact hbig)]
    go_enter Tryz.func46, Tryz.ntmps46
    go_wp2
    have b0 : Boxed (((w.alloc (.cells #[.slice none 0 0] 61)).alloc (.cells #[.int .i64 0] 3)).alloc (.cells #[.int .i64 3] 28)) w.heap.size 61 (.slice none 0 0) := ((Boxed.new w 61 _).alloc _).alloc _
    have b1 : Boxed (((w.alloc (.cells #[.slice none 0 0] 61)).alloc (.cells #[.int .i64 0] 3)).alloc (.cells #[.int .i64 3] 28)) (w.heap.size + 1) 3 (.int .i64 0) := by
      have := (Boxed.new (w.alloc (.cells #[.slice none 0 0] 61)) 3 (.int .i64 0)).alloc (.cells #[.int .i64 3] 28)
      rwa [World.size_alloc] at this
    have b2 : Boxed (((w.alloc (.cells #[.slice none 0 0] 61)).alloc (.cells #[.int .i64 0] 3)).alloc (.cells #[.int .i64 3] 28)) (w.heap.size + 2) 28 (.int .i64 3) := by
      have := Boxed.new ((w.alloc (.cells #[.slice none 0 0] 61)).alloc (.cells #[.int .i64 0] 3)) 28 (.int .i64 3)
      simpa only [World.size_alloc] using this
    refine bodyPost_ret (xtok_results (g := w.heap.size) rfl rfl rfl b0 b1 b2) rfl ?_
    exact gives_err HX rfl ((((Below.refl _ _).alloc (Nat.le_refl _) _).alloc (by simp) _).alloc (by simp; omega) _)
  · exact callsIn_wide.1 (xtokens_in s (by omega) TT (by unfold Hid; rw [← HTT.out]; exact (tokens_scan _ (by rw [bytesN_length]; omega)).symm) w hL)
end Go.Proofs.YtmhnbklchnnbaaaGreatDoor
