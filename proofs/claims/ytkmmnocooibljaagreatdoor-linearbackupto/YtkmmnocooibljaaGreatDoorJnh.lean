/-
  THE PLACES TO WHICH SOMETHING LEADS, RISING.
  THE TWO CLOSURES OF lines: the number of a label's place; a label that is put where one leads to.
-/
import Derived.Test.YtkmmnocooibljaaGreatDoorNy
import Derived.Test.YtkmmnocooibljaaGreatDoorShl
import Derived.Lib.OwnBridge
import Derived.Sort.OwnSortedInts
namespace Go.Proofs.YtkmmnocooibljaaGreatDoor
open Go.RowKit Go.Maps
set_option linter.unusedVariables false
set_option linter.unusedSimpArgs false

def srtI (l : List Int) : List Int := l.mergeSort fun x y => decide (x ≤ y)
theorem srtI_length (l : List Int) : (srtI l).length = l.length := List.length_mergeSort _
def cmpI (l : List Int) : List Int := Go.Lib.compact l
theorem cmpI_length (l : List Int) : (cmpI l).length ≤ l.length := by
  unfold cmpI Go.Lib.compact Go.Lib.compactUpTo
  rw [List.length_map]
  exact Nat.le_trans (List.length_filter_le _ _) (by simp)
theorem sort_as {w : World} {B : Nat} {v : Value} {xs : List Int} (h : LNew w B v xs) (hn : xs.length ≤ 100000000000) :
    Calls Tryz.prog 99 #[v] w fun e w' => e = .returned (.tuple #[]) ∧ LNew w' B v (srtI xs) ∧ ∀ (b : Nat) (W : World), Below b W w → b ≤ B → Below b W w' := by
  rcases h.row.2 with ⟨rfl, h0⟩ | ⟨g, cap, cur, rfl, _, hg, h1, h2, h3, h4⟩
  · obtain rfl : xs = [] := List.eq_nil_of_length_eq_zero h0
    refine (AnyM.slices_Sort_int_none Tryz.laysSlM5_f99 none 0 w).mono ?_
    rintro e w' ⟨rfl, rfl⟩
    have e0 : srtI [] = [] := by simp [srtI]
    rw [e0]
    exact ⟨rfl, h, fun b W q _ => q⟩
  · have hH : Go.Sort.Holds (Value.int .i64) w g 0 xs.toArray := Go.holds_of_blockI hg (by rw [Nat.mul_one] at h4; exact h4)
    have hlt : g < w.heap.size := Own.lt (w := w) (g := g) (cs := cur) (t := 2) hg
    refine (AnyM.slices_Sort_int Tryz.laysSlM5_f99 g 0 cap xs w hH hlt (by omega)).mono ?_
    rintro e w' ⟨rfl, n, os, rfl⟩
    have hB : B ≤ g := h.new g rfl
    refine ⟨rfl, ⟨?_, h.new⟩, fun b W q hb => q.grown (grownBy_sortedI _) (by omega) (fun k e => by cases e; omega)⟩
    rw [srtI_length]
    exact ownsRow_sortedI (srtI_length xs) (Nat.zero_le _) hg h1 h2 h3
theorem compact_as {w : World} {B : Nat} {v : Value} {xs : List Int} (h : LNew w B v xs) (hn : xs.length ≤ 100000000000) :
    Calls Tryz.prog 100 #[v] w fun e w' => ∃ v', e = .returned v' ∧ LNew w' B v' (cmpI xs) ∧ ∀ (b : Nat) (W : World), Below b W w → b ≤ B → Below b W w' := by
  rcases h.row.2 with ⟨rfl, h0⟩ | ⟨g, cap, cur, rfl, _, hg, h1, h2, h3, h4⟩
  · obtain rfl : xs = [] := List.eq_nil_of_length_eq_zero h0
    refine (AnyG.slices_Compact_int_empty Tryz.laysSlN43_f100 none 0 w).mono ?_
    rintro e w' ⟨rfl, rfl⟩
    exact ⟨_, rfl, h, fun b W q _ => q⟩
  · have hH : Go.Sort.Holds (Value.int .i64) w g 0 xs.toArray := Go.holds_of_blockI hg (by rw [Nat.mul_one] at h4; exact h4)
    refine (AnyG.slices_Compact_int Tryz.laysSlN43_f100 g 0 cap xs w hH (by omega) h1).mono ?_
    rintro e w' ⟨rfl, q, rfl⟩
    have hB : B ≤ g := h.new g rfl
    have hc := cmpI_length xs
    unfold cmpI at hc ⊢
    refine ⟨_, rfl, ⟨?_, fun b e => h.new b e⟩, fun b W r hb => Go.Lib.below_putRow r (by omega)⟩
    have := Go.Lib.ownsRow_putRow (q := q) (enc := Value.int .i64) (ys := Go.Lib.compact xs ++ List.replicate (xs.length - (Go.Lib.compact xs).length) 0) h.row (by rw [List.length_append, List.length_replicate]; omega) hc
    rw [List.take_left'  rfl] at this
    exact this
def allT (il : List In) : List Int := (il.map tgs).flatten
theorem allT_snoc (il : List In) (x : In) : allT (il ++ [x]) = allT il ++ tgs x := by simp [allT]
theorem allT_take (il : List In) (k : Nat) : (allT (il.take k)).length ≤ (allT il).length := by
  have h : allT il = allT (il.take k) ++ allT (il.drop k) := by rw [allT, allT, allT, ← List.flatten_append, ← List.map_append, List.take_append_drop]
  rw [h, List.length_append]; omega
def headsL (il : List In) : List Int := cmpI (srtI (allT il))
structure HdAt (w wr : World) (T : List Int) (v : Value) : Prop where
  row : LNew wr w.heap.size v T
  bel : Below w.heap.size w wr
set_option maxHeartbeats 4000000 in
set_option maxRecDepth 100000 in
theorem lnheads_as {w : World} {B : Nat} {vl vp : Value} {sz : Int} {ps : List (In × Value)} (h : InsRow w B vl ps) (hnum : ∀ y ∈ ps, Num y.1 ∧ y.1.arms.length ≤ 1000000) (hps : ps.length ≤ 1000000) (hT : (allT (ps.map Prod.fst)).length ≤ 100000000000) {ap : Option Addr} {np cpp : Nat} (hvp : vp = .slice ap np cpp) :
    Calls Tryz.prog 69 #[.agg #[vl, vp, .int .i64 sz]] w (TgR w (headsL (ps.map Prod.fst))) := by
  subst hvp
  have HIR : Hid (InsRow w B vl ps) := h
  have HNUM : Hid (∀ y ∈ ps, Num y.1 ∧ y.1.arms.length ≤ 1000000) := hnum
  have HTL : Hid ((allT (ps.map Prod.fst)).length ≤ 100000000000) := hT
  obtain ⟨al, cl, rfl, -⟩ := h.row.shape
  obtain ⟨n, hn⟩ : ∃ n, ps.length = n := ⟨_, rfl⟩
  have HN : Hid (ps.length = n) := hn
  rw [hn] at hps
  rw [hn]
  clear h hnum hT hn
  have oB := Own.new w #[.slice al n cl, .slice ap np cpp, .int .i64 sz] 72
  have hb1 := new_below w (.cells #[.slice al n cl, .slice ap np cpp, .int .i64 sz] 72)
  go_enter Tryz.func69, Tryz.ntmps69
  go_upto_region 1 with fail
  generalize w.alloc (.cells #[.slice al n cl, .slice ap np cpp, .int .i64 sz] 72) = w1 at *
  have b0 := oB.cell 0
  simp only [List.getElem?_toArray, List.getElem?_cons_zero] at b0
  have HST : Hid (HdAt w w1 [] (.slice none 0 0)) := ⟨LNew.nil _ _, hb1⟩
  go_wp2_with fail
  clear oB b0 hb1
  go_loopg [3, 9] n (fun g list i wr => ∃ (k : Nat) (lv : Value), k + g = n ∧ lv = list ∧ i = .int .i64 (k : Int) ∧ HdAt w wr (allT ((ps.take k).map Prod.fst)) lv)
  case atStart => exact ⟨0, _, by omega, rfl, rfl, HST.out⟩
  case round =>
    clear HST
    obtain ⟨k, lv, hk, rfl, rfl, hby⟩ := hrel
    have HBY : Hid (HdAt w wr (allT ((ps.take k).map Prod.fst)) lv) := hby
    clear hby
    cases gk with
    | succ gq =>
      have hlt : k < n := by omega
      have HKQ : Hid (k + 1 + gq = n) := by unfold Hid; omega
      have hkx : k < ps.length := by rw [HN.out]; exact hlt
      obtain ⟨h1, h2, h3, h4⟩ := insC_get ps k hkx
      have hrow := (HIR.out.below HBY.out.bel).row
      rw [HN.out] at hrow
      obtain ⟨g1, cap1, cur, e, -⟩ := hrow.block (by omega)
      cases e
      have d0 := Rw.cells hrow _ _ h1
      have d1 := Rw.cells hrow _ _ h2
      have d2 := Rw.cells hrow _ _ h3
      have d3 := Rw.cells hrow _ _ h4
      obtain ⟨hnm, hna⟩ := HNUM.out _ (getD_in (z := (zI, undef)) hkx)
      obtain ⟨ao, cp, he, hal⟩ := rw_armLies (HIR.out.arms _ (getD_in (z := (zI, undef)) hkx)).1 hnm.arms
      have hil : InLies w (ps.getD k (zI, undef)).1 ao := ⟨hnm.op, hnm.a, hnm.b, hal⟩
      rw [he] at d3
      have HEN : Hid (∀ W, Below w.heap.size w W → Calls Tryz.prog 28 #[insV (ps.getD k (zI, undef)).1 (.slice ao (ps.getD k (zI, undef)).1.arms.length cp)] W (TgR W (tgs (ps.getD k (zI, undef)).1))) := fun W q => lnTargets_as (hil.below q) _ rfl hna
      have HTK : Hid (allT ((ps.take (k + 1)).map Prod.fst) = allT ((ps.take k).map Prod.fst) ++ tgs (ps.getD k (zI, undef)).1) := by rw [Hid, take_f hkx, allT_snoc]
      have HLE : Hid ((allT ((ps.take k).map Prod.fst)).length + (tgs (ps.getD k (zI, undef)).1).length ≤ 100000000000) := by
        have h5 := allT_take (ps.map Prod.fst) (k + 1)
        rw [← List.map_take, HTK.out, List.length_append] at h5
        exact Nat.le_trans h5 HTL.out
      have hrc := HBY.out.row.row
      clear h1 h2 h3 h4 hrow hnm hna he hal hil hkx
      unfold insV at HEN
      generalize (ps.getD k (zI, undef)).1 = Y at *
      generalize allT ((ps.take k).map Prod.fst) = TK at *
      generalize tgs Y = TY at *
      generalize (Y.op : Int) = zO at *
      generalize Y.a = zA at *
      generalize Y.b = zB at *
      generalize Y.arms.length = zn at *
      have hlt2 : (k : Int) < (n : Int) := by omega
      have hk0 : (0 : Int) ≤ (k : Int) := by omega
      have oX := Own.new wr #[.int .u8 zO, .int .i64 zA, .int .i64 zB, .slice ao zn cp] 43
      have hb4 := new_below wr (.cells #[.int .u8 zO, .int .i64 zA, .int .i64 zB, .slice ao zn cp] 43)
      go_upto_region 5 with fail
      generalize wr.alloc (.cells #[.int .u8 zO, .int .i64 zA, .int .i64 zB, .slice ao zn cp] 43) = w4 at *
      obtain ⟨x0, x1, x2, x3, xf⟩ := own4 oX
      clear d0 d1 d2 d3
      have HB4 : Hid (Below w.heap.size w w4) := HBY.out.bel.trans (hb4.mono HBY.out.bel.size)
      have HB4r : Hid (Below wr.heap.size wr w4) := hb4
      clear hb4
      go_wp2_with (first | (refine Calls.mono (HEN.out w4 HB4.out) ?_) | fail)
      rintro e w5 ⟨v, rfl, hv, b5⟩
      have HB5 : Hid (Below wr.heap.size wr w5) := HB4r.out.trans (b5.mono HB4r.out.size)
      have hrc5 := hrc.belowR HB5.out
      obtain ⟨a5, c5, rfl, hno, hsp⟩ := rw_split hv.row
      clear x0 x1 x2 x3 xf oX HB4 HB4r HEN hv b5 hrc
      have hL2 := HLE.out
      have hone : ∀ u ∈ iV TY, u.oneCell' = true := by
        intro u hu
        obtain ⟨x, -, rfl⟩ := List.mem_map.1 hu
        simp [Value.oneCell']
      have hiv : (iV TY).length = TY.length * 1 := by rw [iV_length, Nat.mul_one]
      go_wp2_with (first | (refine wpList_appG okI (by rfl) (.tmp 13) (.tmp 15) (by rfl) _ TK.length (iV TK) (by rfl) hrc5 a5 TY.length c5 (iV TY) (by rfl) hiv hsp hno hone hL2 ?_; intro ao' c' wz p1 p2 p3))
      have HBN : Hid (HdAt w wz (allT ((ps.take (k + 1)).map Prod.fst)) (.slice ao' (TK.length + TY.length) c')) := by
        rw [HTK.out]
        have hsz := HBY.out.bel.size
        have hs5 := HB5.out.size
        refine ⟨⟨by rw [List.length_append, iV_app]; exact p1, fun b e => ?_⟩, (HBY.out.bel.trans (HB5.out.mono hsz)).grown p2 (by omega) (fun j e => HBY.out.row.new j e)⟩
        rcases p3 with p3 | p3
        · exact HBY.out.row.new b (by rw [← p3]; exact e)
        · rw [p3] at e; cases e; omega
      clear p1 p2 p3 hsp hno hrc5 HBY hL2 hone hiv HTK HLE
      go_roundg gq
      case measure => omega
      case rel => exact ⟨k + 1, _, HKQ.out, rfl, by go_num, HBN.out⟩
    | zero =>
      obtain rfl : k = n := by omega
      have HR := HBY.out.row
      rw [← HN.out, List.take_length] at HR
      have HB : Hid (Below w.heap.size w wr) := HBY.out.bel
      have HS := sort_as HR HTL.out
      clear HBY HR
      go_wp2_with (first | (refine Calls.mono HS ?_) | fail)
      rintro e w2 ⟨rfl, h2, q2⟩
      have HB2 : Hid (Below w.heap.size w w2) := q2 _ _ HB.out (Nat.le_refl _)
      have HC := compact_as h2 (by rw [srtI_length]; exact HTL.out)
      clear HS h2 q2 HB
      go_wp2_with (first | (refine Calls.mono HC ?_) | fail)
      rintro e w3 ⟨v', rfl, h3, q3⟩
      have HFIN : Hid (TgR w (headsL (ps.map Prod.fst)) (.returned v') w3) := ⟨v', rfl, h3, q3 _ _ HB2.out (Nat.le_refl _)⟩
      clear HC h3 q3 HB2
      go_wp2
      go_ret
      exact HFIN.out
end Go.Proofs.YtkmmnocooibljaaGreatDoor
namespace Go.Proofs.YtkmmnocooibljaaGreatDoor
open Go.RowKit Go.Maps
set_option linter.unusedVariables false
set_option linter.unusedSimpArgs false

def numF (H : List Int) (t : Int) : Int := (H.countP (· < t) : Nat)
theorem lnnum_as {w : World} {gH : Nat} {vh : Value} {H : List Int} (ho : Own w gH #[vh] 44) (hr : Rw w 2 1 vh H.length (iV H)) (hne : H ≠ []) (hs : H.Pairwise (· ≤ ·)) (hlen : H.length ≤ 100000000000) (x : Int) :
    Calls Tryz.prog 70 #[.int .i64 x, .pointer (some ⟨gH, 0, none⟩)] w fun e w' => e = .returned (.int .i64 (numF H x)) ∧ Below w.heap.size w w' := by
  obtain ⟨g, cap, cur, rfl, hg, -⟩ := hr.block (List.length_pos_iff.2 hne)
  have HB : Hid (∀ (W : World), (∀ j u, (iV H)[j]? = some u → W.cell? ⟨g, j, none⟩ = some u) → Calls Tryz.prog 71 #[.slice (some ⟨g, 0, none⟩) H.length cap, .int .i64 x] W fun e w' => e = .returned (.tuple #[.int .i64 (numF H x), .bool (H.contains x)]) ∧ ∃ q, w' = W.drewN q) := fun W hc => by
    have := AnyG.slices_BinarySearch_int Tryz.laysSlN49_f71 g 0 H.length cap H x W (Nat.le_refl _) (by omega) (fun j hj => by
      rw [Nat.zero_add]
      exact hc j _ (by simp [iV, List.getD, hj])) (by rw [List.take_length]; exact hs)
    rw [List.take_length] at this
    exact this
  have m0 := ho.cell 0
  simp only [List.getElem?_toArray, List.getElem?_cons_zero] at m0
  have HC : Hid (∀ j u, (iV H)[j]? = some u → w.cell? ⟨g, j, none⟩ = some u) := fun j u hu => Rw.cells hr j u hu
  generalize numF H x = NF at *
  generalize H.contains x = HX at *
  clear hr hg hs ho
  go_enter Tryz.func70, Tryz.ntmps70
  go_wp2_with (first | (refine Calls.mono (HB.out w HC.out) ?_) | fail)
  rintro e w2 ⟨rfl, q, rfl⟩
  have hb : Below w.heap.size w (w.drewN q) := ⟨rfl, rfl, rfl, Nat.le_refl _, fun _ _ => rfl⟩
  clear HB HC m0
  go_wp2
  go_ret
  exact ⟨rfl, hb⟩
/-- Lines of a call's own, each with its arms. -/
def lnC (ps : List (Int × In × Value)) : List Value := (ps.map fun y => [Value.int .i64 y.1, .int .u8 (y.2.1.op : Int), .int .i64 y.2.1.a, .int .i64 y.2.1.b, y.2.2]).flatten
theorem lnC_snoc (ps : List (Int × In × Value)) (y : Int × In × Value) : lnC (ps ++ [y]) = lnC ps ++ [Value.int .i64 y.1, .int .u8 (y.2.1.op : Int), .int .i64 y.2.1.a, .int .i64 y.2.1.b, y.2.2] := by simp [lnC]
structure LnRow (w : World) (B : Nat) (v : Value) (ps : List (Int × In × Value)) : Prop where
  row : Rw w 56 5 v ps.length (lnC ps)
  new : ∀ b, v.ownBlock = some b → B ≤ b
  arms : ∀ y ∈ ps, Rw w 51 2 y.2.2 y.2.1.arms.length (armC y.2.1.arms) ∧ ∀ b, y.2.2.ownBlock = some b → B ≤ b
theorem LnRow.below {w w' : World} {B : Nat} {v : Value} {ps : List (Int × In × Value)} (h : LnRow w B v ps) (hb : Below w.heap.size w w') : LnRow w' B v ps :=
  ⟨h.row.belowR hb, h.new, fun y hy => ⟨(h.arms y hy).1.belowR hb, (h.arms y hy).2⟩⟩
theorem LnRow.nil (w : World) (B : Nat) : LnRow w B (.slice none 0 0) [] := ⟨World.ownsRow_nil _ _ _ _, by simp [Value.ownBlock], by simp⟩
theorem okL : ElemOk 22 56 (.agg #[.int .i64 0, .int .u8 0, .int .i64 0, .int .i64 0, .slice none 0 0]) 5 56 := ⟨Tryz.underlying22, by kernel_rfl, rfl, by omega, by omega⟩
/-- What a step of the lines keeps: all blocks of other types, and what lies below. -/
structure Kp (B : Nat) (w w' : World) : Prop where
  typ : ∀ g cs t, Own w g cs t → t ≠ 22 → t ≠ 3 → t ≠ 56 → Own w' g cs t
  bel : Below B w w'
  size : w.heap.size ≤ w'.heap.size
theorem Kp.refl (B : Nat) (w : World) : Kp B w w := ⟨fun _ _ _ h _ _ _ => h, Below.refl _ _, Nat.le_refl _⟩
theorem Kp.rw {B : Nat} {w w' : World} (h : Kp B w w') {e : TypeId} {size : Nat} {v : Value} {n : Nat} {xs : List Value} (k : Rw w e size v n xs) (h1 : e ≠ 22) (h2 : e ≠ 3) (h3 : e ≠ 56) : Rw w' e size v n xs := by
  refine ⟨k.1, ?_⟩
  rcases k.2 with q | ⟨g, cap, cur, e1, e2, hg, r⟩
  · exact .inl q
  · exact .inr ⟨g, cap, cur, e1, e2, h.typ g cur e hg h1 h2 h3, r⟩
/-- The three variables that the closures share. -/
structure LsAt (B : Nat) (w : World) (gN gH gO : Nat) (vh vo : Value) (H : List Int) (ps : List (Int × In × Value)) (next : Nat) : Prop where
  nx : Own w gN #[.int .i64 (next : Int)] 3
  hd : Own w gH #[vh] 44
  hr : LNew w B vh H
  ou : Own w gO #[vo] 22
  row : LnRow w B vo ps
  bN : B ≤ gN
  bO : B ≤ gO
  sz : B ≤ w.heap.size
theorem LsAt.below {B : Nat} {w w' : World} {gN gH gO : Nat} {vh vo : Value} {H : List Int} {ps : List (Int × In × Value)} {next : Nat} (h : LsAt B w gN gH gO vh vo H ps next) (hb : Below w.heap.size w w') : LsAt B w' gN gH gO vh vo H ps next :=
  ⟨h.nx.below hb, h.hd.below hb, h.hr.below hb, h.ou.below hb, h.row.below hb, h.bN, h.bO, Nat.le_trans h.sz hb.size⟩
/-- A line is put: the row grows by an append, the variable of the row is written. -/
theorem LsAt.put {B : Nat} {w wa wz : World} {gN gH gO : Nat} {vh vo v' : Value} {H : List Int} {ps : List (Int × In × Value)} {next : Nat} (h : LsAt B w gN gH gO vh vo H ps next) (ha : Below w.heap.size w wa) (y : Int × In × Value) {m : Nat} (hm : m = ps.length) (q1 : Rw wz 56 5 v' (m + 1) (lnC ps ++ [Value.int .i64 y.1, .int .u8 (y.2.1.op : Int), .int .i64 y.2.1.a, .int .i64 y.2.1.b, y.2.2])) (q2 : wa.grownBy wz vo.ownBlock) (q3 : v'.ownBlock = vo.ownBlock ∨ v'.ownBlock = some wa.heap.size)
    (hy : Rw wa 51 2 y.2.2 y.2.1.arms.length (armC y.2.1.arms)) (hyn : ∀ b, y.2.2.ownBlock = some b → B ≤ b) :
    LsAt B (wz.setCell ⟨gO, 0, none⟩ v') gN gH gO vh v' H (ps ++ [y]) next ∧ Kp B w (wz.setCell ⟨gO, 0, none⟩ v') := by
  subst hm
  have hA := h.below ha
  have hro := hA.row.row
  have eo : ∀ {g : Nat} {cs : Array Value} {t : TypeId}, Own wa g cs t → t ≠ 56 → Own wz g cs t := fun {g cs t} k ht => k.grown q2 (fun e => hro.ne k (fun e2 => ht e2.symm) e.symm)
  have er : ∀ {size : Nat} {e : TypeId} {v : Value} {n : Nat} {xs : List Value}, Rw wa e size v n xs → e ≠ 56 → Rw wz e size v n xs := fun {size e v n xs} k he => k.grown q2 (fun j ej e2 => k.ne2 hro he j ej e2.symm)
  have oo : Own wz gO #[vo] 22 := eo hA.ou (by decide)
  have hbz : Below B w wz := (ha.mono (Nat.le_trans h.sz (Nat.le_refl _))).grown q2 (Nat.le_trans hA.sz (Nat.le_refl _)) (fun k e => h.row.new k e)
  have hsz : w.heap.size ≤ wz.heap.size := Nat.le_trans ha.size q2.size
  have fr : Fr (fun k => k = gO) wz (wz.setCell ⟨gO, 0, none⟩ v') := (Fr.refl (fun k => k = gO) wz).set (g := gO) (.inr rfl) 0 _
  have ef : ∀ {size : Nat} {e : TypeId} {v : Value} {n : Nat} {xs : List Value}, Rw wz e size v n xs → e ≠ 22 → Rw (wz.setCell ⟨gO, 0, none⟩ v') e size v n xs := fun {size e v n xs} k he => k.set (k.ne oo he) 0 v'
  refine ⟨⟨(eo hA.nx (by decide)).other (fun e => (eo hA.nx (by decide)).ne oo (by decide) e) v', (eo hA.hd (by decide)).other (fun e => (eo hA.hd (by decide)).ne oo (by decide) e) v', ⟨ef (er hA.hr.row (by decide)) (by decide), h.hr.new⟩, ?_, ⟨?_, fun b e => ?_, fun z hz => ?_⟩, h.bN, h.bO, by rw [World.size_setCell]; exact Nat.le_trans h.sz hsz⟩, ⟨fun g cs t k h1 h2 h3 => ?_, ?_, by rw [World.size_setCell]; exact hsz⟩⟩
  · have := oo.set 0 v'
    simpa using this
  · rw [List.length_append, lnC_snoc]
    exact ef q1 (by decide)
  · rcases q3 with q3 | q3
    · exact h.row.new b (by rw [← q3]; exact e)
    · rw [q3] at e; cases e; exact Nat.le_trans h.sz ha.size
  · rcases List.mem_append.1 hz with hz | hz
    · exact ⟨ef (er (hA.row.arms z hz).1 (by decide)) (by decide), (h.row.arms z hz).2⟩
    · obtain rfl := List.mem_singleton.1 hz
      exact ⟨ef (er hy (by decide)) (by decide), hyn⟩
  · have k2 := eo (k.below ha) h3
    exact k2.other (k2.ne oo h1) v'
  · exact hbz.trans ⟨fr.os, fr.tape, fr.output, by rw [World.size_setCell]; exact Nat.le_refl _, fun k hk => fr.block k (by have := h.sz; omega) (fun e => by have := h.bO; omega)⟩
/-- The number goes on. -/
theorem LsAt.step {B : Nat} {w : World} {gN gH gO : Nat} {vh vo : Value} {H : List Int} {ps : List (Int × In × Value)} {next : Nat} (h : LsAt B w gN gH gO vh vo H ps next) :
    LsAt B (w.setCell ⟨gN, 0, none⟩ (.int .i64 ((next + 1 : Nat) : Int))) gN gH gO vh vo H ps (next + 1) ∧ Kp B w (w.setCell ⟨gN, 0, none⟩ (.int .i64 ((next + 1 : Nat) : Int))) := by
  have ef : ∀ {size : Nat} {e : TypeId} {v : Value} {n : Nat} {xs : List Value}, Rw w e size v n xs → e ≠ 3 → Rw (w.setCell ⟨gN, 0, none⟩ (.int .i64 ((next + 1 : Nat) : Int))) e size v n xs := fun {size e v n xs} k he => k.set (k.ne h.nx he) 0 _
  have fr : Fr (fun k => k = gN) w (w.setCell ⟨gN, 0, none⟩ (.int .i64 ((next + 1 : Nat) : Int))) := (Fr.refl (fun k => k = gN) w).set (g := gN) (.inr rfl) 0 _
  refine ⟨⟨?_, h.hd.other (h.hd.ne h.nx (by decide)) _, ⟨ef h.hr.row (by decide), h.hr.new⟩, h.ou.other (h.ou.ne h.nx (by decide)) _, ⟨ef h.row.row (by decide), h.row.new, fun y hy => ⟨ef (h.row.arms y hy).1 (by decide), (h.row.arms y hy).2⟩⟩, h.bN, h.bO, by rw [World.size_setCell]; exact h.sz⟩, ⟨fun g cs t k h1 h2 h3 => k.other (k.ne h.nx h2) _, ?_, by rw [World.size_setCell]; exact Nat.le_refl _⟩⟩
  · have := h.nx.set 0 (.int .i64 ((next + 1 : Nat) : Int))
    simpa using this
  · exact ⟨fr.os, fr.tape, fr.output, by rw [World.size_setCell]; exact Nat.le_refl _, fun k hk => fr.block k (by have := h.sz; omega) (fun e => by have := h.bN; omega)⟩
theorem Kp.trans {B : Nat} {a b c : World} (h : Kp B a b) (k : Kp B b c) : Kp B a c := ⟨fun g cs t x h1 h2 h3 => k.typ g cs t (h.typ g cs t x h1 h2 h3) h1 h2 h3, h.bel.trans k.bel, Nat.le_trans h.size k.size⟩
def reachP (H : List Int) (ps : List (Int × In × Value)) (next : Nat) (place : Int) : List (Int × In × Value) × Nat :=
  if next < H.length ∧ H.getD next 0 = place then (ps ++ [((next : Int), zI, .slice none 0 0)], next + 1) else (ps, next)
set_option maxHeartbeats 4000000 in
set_option maxRecDepth 100000 in
theorem lnreach_as {B : Nat} {w : World} {gN gH gO : Nat} {vh vo : Value} {H : List Int} {ps : List (Int × In × Value)} {next : Nat} (h : LsAt B w gN gH gO vh vo H ps next) (hH : H.length ≤ 100000000000) (hnx : next ≤ 100000000000) (hps : ps.length ≤ 10000000) (place : Int) :
    Calls Tryz.prog 72 #[.int .i64 place, .pointer (some ⟨gN, 0, none⟩), .pointer (some ⟨gH, 0, none⟩), .pointer (some ⟨gO, 0, none⟩)] w fun e w' => e = .returned (.tuple #[]) ∧ ∃ vo', LsAt B w' gN gH gO vh vo' H (reachP H ps next place).1 (reachP H ps next place).2 ∧ Kp B w w' := by
  have HL : Hid (LsAt B w gN gH gO vh vo H ps next) := h
  have m0 := h.nx.cell 0
  have m1 := h.hd.cell 0
  have m2 := h.ou.cell 0
  have hr := h.hr.row
  have hl63 : H.length ≤ 140737488355328 := by omega
  simp only [List.getElem?_toArray, List.getElem?_cons_zero] at m0 m1 m2
  obtain ⟨ah, ch, rfl⟩ := h.hr.shape
  clear h
  by_cases hlt : next < H.length
  · obtain ⟨g, cap, cur, e, hg, -⟩ := hr.block (by omega)
    cases e
    have d0 : w.cell? ⟨g, next, none⟩ = some (.int .i64 (H.getD next 0)) := Rw.cells hr next _ (by simp [iV, List.getD, hlt])
    have hltI : (next : Int) < (H.length : Int) := by omega
    have hn0 : (0 : Int) ≤ (next : Int) := by omega
    by_cases hp : H.getD next 0 = place
    · have hP : reachP H ps next place = (ps ++ [((next : Int), zI, .slice none 0 0)], next + 1) := by unfold reachP; rw [if_pos ⟨hlt, hp⟩]
      rw [hP]
      rw [hp] at d0
      have hA := HL.out.below (new_below w (.cells #[.int .i64 (next : Int), .int .u8 0, .int .i64 0, .int .i64 0, .slice none 0 0] 56))
      have oI := Own.new w #[.int .i64 (next : Int), .int .u8 0, .int .i64 0, .int .i64 0, .slice none 0 0] 56
      have row1 := hA.row.row
      have HPUT : Hid (∀ ao cap wz, Rw wz 56 5 (.slice ao (ps.length + 1) cap) (ps.length + 1) (lnC ps ++ [.int .i64 (next : Int), .int .u8 0, .int .i64 0, .int .i64 0, .slice none 0 0]) → (w.alloc (.cells #[.int .i64 (next : Int), .int .u8 0, .int .i64 0, .int .i64 0, .slice none 0 0] 56)).grownBy wz vo.ownBlock → ((Value.slice ao (ps.length + 1) cap).ownBlock = vo.ownBlock ∨ (Value.slice ao (ps.length + 1) cap).ownBlock = some (w.alloc (.cells #[.int .i64 (next : Int), .int .u8 0, .int .i64 0, .int .i64 0, .slice none 0 0] 56)).heap.size) → wz.cell? ⟨gO, 0, none⟩ = some vo ∧ wz.frozen? ⟨gO, 0, none⟩ = false ∧ LsAt B (wz.setCell ⟨gO, 0, none⟩ (.slice ao (ps.length + 1) cap)) gN gH gO (.slice (some ⟨g, 0, none⟩) H.length ch) (.slice ao (ps.length + 1) cap) H (ps ++ [((next : Int), zI, .slice none 0 0)]) next ∧ Kp B w (wz.setCell ⟨gO, 0, none⟩ (.slice ao (ps.length + 1) cap))) := fun ao cap wz q1 q2 q3 => by
        have oo : Own wz gO #[vo] 22 := hA.ou.grown q2 (fun e => hA.row.row.ne hA.ou (by decide) e.symm)
        have c0 := oo.cell 0
        simp only [List.getElem?_toArray, List.getElem?_cons_zero] at c0
        obtain ⟨z1, z2⟩ := HL.out.put (new_below w _) ((next : Int), zI, .slice none 0 0) rfl q1 q2 q3 (World.ownsRow_nil _ _ _ _) (by simp [Value.ownBlock])
        exact ⟨c0, oo.froz 0, z1, z2⟩
      obtain ⟨m, hm⟩ : ∃ m, ps.length = m := ⟨_, rfl⟩
      obtain ⟨L, hLL⟩ : ∃ L, H.length = L := ⟨_, rfl⟩
      rw [hm] at row1 HPUT hps
      rw [hLL] at HL hltI hl63 HPUT m1
      rw [hLL]
      clear hr hP hp hg hA hlt hm hLL hH
      go_enter Tryz.func72, Tryz.ntmps72
      go_upto_region 2 with (first | (refine wpList_app1 okL (by rfl) (.tmp 17) (.tmp 20) (by rfl) _ m (lnC ps) (by rfl) row1 w.heap.size [.int .i64 (next : Int), .int .u8 0, .int .i64 0, .int .i64 0, .slice none 0 0] (by rfl) oI rfl (by simp [Value.oneCell']) hps ?_; intro ao2 cap2 wz q1 q2 q3; obtain ⟨n0, nf, z1, z2⟩ := HPUT.out ao2 cap2 wz q1 q2 q3))
      clear HPUT q1 q2 q3 n0 nf m0 m1 m2 d0 row1 oI HL
      generalize wz.setCell ⟨gO, 0, none⟩ (.slice ao2 (m + 1) cap2) = w5 at *
      obtain ⟨y1, y2⟩ := z1.step
      have e0 := z1.nx.cell 0
      have ef := z1.nx.froz 0
      simp only [List.getElem?_toArray, List.getElem?_cons_zero] at e0
      have HFIN : Hid (∃ vo', LsAt B (w5.setCell ⟨gN, 0, none⟩ (.int .i64 ((next : Int) + 1))) gN gH gO _ vo' H (ps ++ [((next : Int), zI, .slice none 0 0)]) (next + 1) ∧ Kp B w (w5.setCell ⟨gN, 0, none⟩ (.int .i64 ((next : Int) + 1)))) := ⟨_, y1, z2.trans y2⟩
      clear y1 y2 z1 z2
      go_wp2
      refine bodyPost_end (results_none rfl _ _ _) rfl ⟨rfl, HFIN.out⟩
    · have hP : reachP H ps next place = (ps, next) := by unfold reachP; rw [if_neg (fun q => hp q.2)]
      rw [hP]
      have hq : (H.getD next 0 == place) = false := by rw [beq_eq_false_iff_ne]; exact hp
      generalize H.getD next 0 = HV at *
      generalize hLL : H.length = L at *
      clear hr hP hg hLL
      go_enter Tryz.func72, Tryz.ntmps72
      go_wp2
      exact bodyPost_end (results_none rfl _ _ _) rfl ⟨rfl, _, HL.out, Kp.refl _ _⟩
  · have hP : reachP H ps next place = (ps, next) := by unfold reachP; rw [if_neg (fun q => hlt q.1)]
    rw [hP]
    have hltI : ¬ (next : Int) < (H.length : Int) := by omega
    generalize hLL : H.length = L at *
    clear hr hP hlt hLL
    go_enter Tryz.func72, Tryz.ntmps72
    go_wp2
    first
      | exact bodyPost_end (results_none rfl _ _ _) rfl ⟨rfl, _, HL.out, Kp.refl _ _⟩
      | exact bodyPost_end (results_none rfl _ _ _) rfl ⟨rfl, ⟨_, HL.out⟩, Kp.refl _ _⟩
end Go.Proofs.YtkmmnocooibljaaGreatDoor
