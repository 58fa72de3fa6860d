/-
  THE NORMAL LINES OF INSTRUCTIONS WHOSE TARGETS ARE PLACES.
-/
import Derived.Test.YtkmmnocooibljaaGreatDoorJnh
namespace Go.Proofs.YtkmmnocooibljaaGreatDoor
open Go.RowKit Go.Maps
set_option linter.unusedVariables false
set_option linter.unusedSimpArgs false

theorem cmpI_sub (l : List Int) : (cmpI l).Sublist l := by
  unfold cmpI Go.Lib.compact Go.Lib.compactUpTo
  have h := (List.filter_sublist (p := Go.Lib.keeps l.toArray) (l := List.range l.length)).map (fun i => l.toArray[i]!)
  have e := Go.Lib.range_map_get l.toArray
  simp only [List.size_toArray] at e
  rw [e] at h
  simpa using h
theorem cmpI_ne {l : List Int} (h : l ≠ []) : cmpI l ≠ [] := by
  intro e
  have hl : 0 < l.length := List.length_pos_iff.2 h
  unfold cmpI Go.Lib.compact Go.Lib.compactUpTo at e
  have e2 := List.map_eq_nil_iff.1 e
  have : (0 : Nat) ∈ (List.range l.length).filter (Go.Lib.keeps l.toArray) := List.mem_filter.2 ⟨List.mem_range.2 hl, by simp [Go.Lib.keeps]⟩
  rw [e2] at this
  cases this
theorem srtI_sorted (l : List Int) : (srtI l).Pairwise (· ≤ ·) := by
  have := List.pairwise_mergeSort (le := fun x y : Int => decide (x ≤ y)) (fun a b c h1 h2 => by simp at h1 h2 ⊢; omega) (fun a b => by simp; omega) l
  exact this.imp (fun h => by simpa using h)
theorem srtI_mem (l : List Int) (x : Int) : x ∈ srtI l ↔ x ∈ l := List.mem_mergeSort
theorem headsL_sorted (il : List In) : (headsL il).Pairwise (· ≤ ·) := (srtI_sorted _).sublist (cmpI_sub _)
theorem headsL_length (il : List In) : (headsL il).length ≤ (allT il).length := by
  unfold headsL
  exact Nat.le_trans (cmpI_length _) (by rw [srtI_length]; exact Nat.le_refl _)
theorem headsL_ne {il : List In} {x : In} (hx : x ∈ il) {t : Int} (ht : t ∈ tgs x) : headsL il ≠ [] := by
  unfold headsL
  refine cmpI_ne (fun e => ?_)
  have : t ∈ srtI (allT il) := (srtI_mem _ _).2 (List.mem_flatten.2 ⟨_, List.mem_map.2 ⟨x, hx, rfl⟩, ht⟩)
  rw [e] at this; cases this
def qL (y : Int × In × Value) : Int × In := (y.1, y.2.1)
def reachM (H : List Int) (st : List (Int × In) × Nat) (place : Int) : List (Int × In) × Nat :=
  if st.2 < H.length ∧ H.getD st.2 0 = place then (st.1 ++ [((st.2 : Int), zI)], st.2 + 1) else st
theorem reach_q (H : List Int) (ps : List (Int × In × Value)) (next : Nat) (place : Int) : ((reachP H ps next place).1.map qL, (reachP H ps next place).2) = reachM H (ps.map qL, next) place := by
  unfold reachP reachM
  simp only
  split
  · simp [qL]
  · rfl
def stepM (H : List Int) (st : List (Int × In) × Nat) (y : In × Nat) : List (Int × In) × Nat :=
  ((reachM H st (y.2 : Int)).1 ++ [(0, atI (numF H) y.1)], (reachM H st (y.2 : Int)).2)
def linesM (H : List Int) (ys : List (In × Nat)) (en : Int) : List (Int × In) × Nat := reachM H (ys.foldl (stepM H) ([], 0)) en
theorem reachM_len (H : List Int) (st : List (Int × In) × Nat) (p : Int) : (reachM H st p).1.length ≤ st.1.length + 1 ∧ (reachM H st p).2 ≤ st.2 + 1 := by
  unfold reachM; split <;> simp
theorem fold_len (H : List Int) (ys : List (In × Nat)) : (ys.foldl (stepM H) ([], 0)).1.length ≤ 2 * ys.length ∧ (ys.foldl (stepM H) ([], 0)).2 ≤ ys.length := by
  suffices ∀ st : List (Int × In) × Nat, (ys.foldl (stepM H) st).1.length ≤ st.1.length + 2 * ys.length ∧ (ys.foldl (stepM H) st).2 ≤ st.2 + ys.length by
    have := this ([], 0)
    simpa using this
  induction ys with
  | nil => intro st; simp
  | cons y r ih =>
    intro st
    have h1 := ih (stepM H st y)
    have h2 := reachM_len H st (y.2 : Int)
    simp only [List.foldl_cons, List.length_cons]
    unfold stepM at h1 ⊢
    simp only [List.length_append, List.length_cons, List.length_nil] at h1 ⊢
    omega
/-- Where the walk stands behind k instructions. -/
structure LkAt (H : List Int) (ys : List (In × Nat)) (k : Nat) (ps : List (Int × In × Value)) (next : Nat) : Prop where
  eq : (ps.map qL, next) = (ys.take k).foldl (stepM H) ([], 0)
theorem LkAt.len {H : List Int} {ys : List (In × Nat)} {k : Nat} {ps : List (Int × In × Value)} {next : Nat} (h : LkAt H ys k ps next) : ps.length ≤ 2 * k ∧ next ≤ k := by
  have h1 := fold_len H (ys.take k)
  rw [← h.eq] at h1
  simp only [List.length_map, List.length_take] at h1
  have := Nat.min_le_left k ys.length
  omega
theorem LkAt.next {H : List Int} {ys : List (In × Nat)} {k : Nat} {ps : List (Int × In × Value)} {next : Nat} (h : LkAt H ys k ps next) {x : In} {p : Nat} (hk : ys[k]? = some (x, p)) (v : Value) :
    LkAt H ys (k + 1) ((reachP H ps next (p : Int)).1 ++ [(0, atI (numF H) x, v)]) (reachP H ps next (p : Int)).2 := by
  constructor
  have e := reach_q H ps next (p : Int)
  rw [List.take_add_one, hk, Option.toList_some, List.foldl_append, ← h.eq]
  simp only [List.foldl_cons, List.foldl_nil]
  unfold stepM
  rw [← e]
  simp [qL]
theorem LkAt.done {H : List Int} {ys : List (In × Nat)} {ps : List (Int × In × Value)} {next : Nat} (h : LkAt H ys ys.length ps next) (en : Int) : ((reachP H ps next en).1.map qL, (reachP H ps next en).2) = linesM H ys en := by
  rw [reach_q, h.eq, List.take_length]; rfl
theorem LkAt.start (H : List Int) (ys : List (In × Nat)) : LkAt H ys 0 [] 0 := ⟨rfl⟩
def LinR (w : World) (r : List (Int × In) × Nat) (hl : Nat) (e : Ending) (w' : World) : Prop :=
  ∃ vo ps, e = .returned (.tuple #[vo, .bool (decide (r.2 = hl))]) ∧ ps.map qL = r.1 ∧ LnRow w' w.heap.size vo ps ∧ Below w.heap.size w w'
theorem fnNum : FnIs 70 := fun a w => by kernel_rfl
theorem fnReach : FnIs 72 := fun a w => by kernel_rfl
theorem intC_get (l : List Nat) (k : Nat) (h : k < l.length) : (intC l)[k]? = some (.int .i64 ((l.getD k 0 : Nat) : Int)) := by
  simp [intC, List.getD, h]
set_option maxHeartbeats 16000000 in
set_option maxRecDepth 100000 in
theorem lnlines_as {w : World} {B : Nat} {vl vp : Value} {sz : Int} {qs : List (In × Value)} {pl : List Nat} (h : InsRow w B vl qs) (hv : Rw w 3 1 vp pl.length (intC pl)) (hnum : ∀ y ∈ qs, Num y.1 ∧ y.1.arms.length ≤ 900000) (hpl : pl.length = qs.length) (hps : qs.length ≤ 1000000) (hT : (allT (qs.map Prod.fst)).length ≤ 100000000000) :
    Calls Tryz.prog 42 #[.agg #[vl, vp, .int .i64 sz]] w (LinR w (linesM (headsL (qs.map Prod.fst)) ((qs.map Prod.fst).zip pl) sz) (headsL (qs.map Prod.fst)).length) := by
  have HIR : Hid (InsRow w B vl qs) := h
  have HPR : Hid (Rw w 3 1 vp pl.length (intC pl)) := hv
  have HNUM : Hid (∀ y ∈ qs, Num y.1 ∧ y.1.arms.length ≤ 900000) := hnum
  have HHH : Hid (∀ W, Below w.heap.size w W → Calls Tryz.prog 69 #[.agg #[vl, vp, .int .i64 sz]] W (TgR W (headsL (qs.map Prod.fst)))) := fun W q => by
    obtain ⟨ap, cpp, e, -⟩ := hv.shape
    exact lnheads_as (h.below q) (fun y hy => ⟨(hnum y hy).1, by have := (hnum y hy).2; omega⟩) hps hT e
  have HNE : Hid (∀ y ∈ qs, ∀ t ∈ tgs y.1, headsL (qs.map Prod.fst) ≠ []) := fun y hy t ht => headsL_ne (List.mem_map.2 ⟨y, hy, rfl⟩) ht
  have HSO : Hid ((headsL (qs.map Prod.fst)).Pairwise (· ≤ ·)) := headsL_sorted _
  have hHL : (headsL (qs.map Prod.fst)).length ≤ 100000000000 := Nat.le_trans (headsL_length _) hT
  have HHL : Hid ((headsL (qs.map Prod.fst)).length ≤ 100000000000) := hHL
  have HYS : Hid (∀ k, k < qs.length → ((qs.map Prod.fst).zip pl)[k]? = some ((qs.getD k (zI, undef)).1, pl.getD k 0)) := fun k hk => by
    rw [List.getElem?_zip_eq_some]
    refine ⟨?_, ?_⟩
    · rw [List.getElem?_map, List.getElem?_eq_getElem hk]; simp [List.getD, hk]
    · have : k < pl.length := by omega
      rw [List.getElem?_eq_getElem this]; simp [List.getD, this]
  have HYL : Hid (((qs.map Prod.fst).zip pl).length = qs.length) := by rw [Hid, List.length_zip, List.length_map]; omega
  have HPL : Hid (pl.length = qs.length) := hpl
  generalize headsL (qs.map Prod.fst) = H at *
  generalize (qs.map Prod.fst).zip pl = ys at *
  obtain ⟨al, cl, rfl, -⟩ := h.row.shape
  obtain ⟨ap, cpp, rfl, -⟩ := hv.shape
  obtain ⟨n, hn⟩ : ∃ n, qs.length = n := ⟨_, rfl⟩
  have HN : Hid (qs.length = n) := hn
  rw [hpl] at HPR HHH ⊢
  rw [hn] at hps HYS HYL HHH HPR HPL ⊢
  clear h hv hnum hT hpl hn hHL
  have oB := Own.new w #[.slice al n cl, .slice ap n cpp, .int .i64 sz] 72
  have hb1 := new_below w (.cells #[.slice al n cl, .slice ap n cpp, .int .i64 sz] 72)
  have hmf : ∀ (fn : Fn) (first cap : Array Value) (w : World), (Instr.makeFunc fn first cap).run Tryz.prog w = .ok (.func fn first cap) w := fun _ _ _ _ => rfl
  have hfn := fnReach
  unfold FnIs at hfn
  go_enter Tryz.func42, Tryz.ntmps42
  go_upto_region 1 with fail
  generalize w.alloc (.cells #[.slice al n cl, .slice ap n cpp, .int .i64 sz] 72) = w1 at *
  have b0 := oB.cell 0
  have b1 := oB.cell 1
  have b2 := oB.cell 2
  simp only [List.getElem?_toArray, List.getElem?_cons_zero, List.getElem?_cons_succ] at b0 b1 b2
  go_wp2_with (first | (refine Calls.mono (HHH.out w1 hb1) ?_) | fail)
  rintro e w2 ⟨vh, rfl, hh, b2'⟩
  obtain ⟨ah, ch, rfl⟩ := hh.shape
  obtain ⟨NH, hNH⟩ : ∃ NH, H.length = NH := ⟨_, rfl⟩
  have HNH : Hid (H.length = NH) := hNH
  rw [hNH] at hh ⊢
  have oB2 := oB.below b2'
  have HB2 : Hid (Below w.heap.size w w2) := hb1.trans (b2'.mono hb1.size)
  have HLS : Hid (LsAt w.heap.size (((w2.alloc (.cells #[.slice ah NH ch] 44)).alloc (.cells #[.slice none 0 0] 22)).alloc (.cells #[.int .i64 0] 3)) (w2.heap.size + 1 + 1) w2.heap.size (w2.heap.size + 1) (.slice ah NH ch) (.slice none 0 0) H [] 0 ∧ Own (((w2.alloc (.cells #[.slice ah NH ch] 44)).alloc (.cells #[.slice none 0 0] 22)).alloc (.cells #[.int .i64 0] 3)) w.heap.size #[.slice al n cl, .slice ap n cpp, .int .i64 sz] 72 ∧ Below w.heap.size w (((w2.alloc (.cells #[.slice ah NH ch] 44)).alloc (.cells #[.slice none 0 0] 22)).alloc (.cells #[.int .i64 0] 3))) := by
    have hs := HB2.out.size
    have o1 := Own.new w2 #[.slice ah NH ch] 44
    have o2 := Own.new (w2.alloc (.cells #[.slice ah NH ch] 44)) #[.slice none 0 0] 22
    have o3 := Own.new ((w2.alloc (.cells #[.slice ah NH ch] 44)).alloc (.cells #[.slice none 0 0] 22)) #[.int .i64 0] 3
    simp only [World.size_alloc] at o2 o3
    refine ⟨⟨o3, (o1.alloc _).alloc _, ⟨((hh.row.alloc _).alloc _).alloc _, fun b e => Nat.le_trans hb1.size (hh.new b e)⟩, o2.alloc _, LnRow.nil _ _, by omega, by omega, by simp; omega⟩, ((oB2.alloc _).alloc _).alloc _, ((HB2.out.alloc hs _).alloc (by simp; omega) _).alloc (by simp; omega) _⟩
  clear oB oB2 hb1 b0 b1 b2 b2' hh HHH
  go_upto_region 6 with fail
  generalize ((w2.alloc (.cells #[.slice ah NH ch] 44)).alloc (.cells #[.slice none 0 0] 22)).alloc (.cells #[.int .i64 0] 3) = w5 at *
  clear HB2
  generalize w2.heap.size + 1 + 1 = gN at *
  generalize w2.heap.size + 1 = gO at *
  generalize w2.heap.size = gH at *
  have c0 := HLS.out.2.1.cell 0
  simp only [List.getElem?_toArray, List.getElem?_cons_zero] at c0
  go_wp2_with fail
  clear c0
  go_loopg [18] n (fun g i wr => ∃ (k : Nat) (vo : Value) (ps : List (Int × In × Value)) (next : Nat), k + g = n ∧ i = .int .i64 (k : Int) ∧ (LsAt w.heap.size wr gN gH gO (.slice ah NH ch) vo H ps next ∧ Own wr w.heap.size #[.slice al n cl, .slice ap n cpp, .int .i64 sz] 72 ∧ Below w.heap.size w wr) ∧ LkAt H ys k ps next)
  case atStart => exact ⟨0, _, _, _, by omega, rfl, HLS.out, LkAt.start _ _⟩
  case round =>
    clear HLS
    obtain ⟨k, vo, ps, next, hk, rfl, hby, hlk⟩ := hrel
    have HBY : Hid (LsAt w.heap.size wr gN gH gO (.slice ah NH ch) vo H ps next ∧ Own wr w.heap.size #[.slice al n cl, .slice ap n cpp, .int .i64 sz] 72 ∧ Below w.heap.size w wr) := hby
    have HLK : Hid (LkAt H ys k ps next) := hlk
    have hlen := hlk.len
    have hps7 : ps.length ≤ 9000000 := by omega
    have hnx7 : next ≤ 100000000000 := by omega
    clear hby hlk hlen
    cases gk with
    | succ gq =>
      have hlt : k < n := by omega
      have HKQ : Hid (k + 1 + gq = n) := by unfold Hid; omega
      have hkx : k < qs.length := by rw [HN.out]; exact hlt
      obtain ⟨h1, h2, h3, h4⟩ := insC_get qs k hkx
      have hrow := (HIR.out.below HBY.out.2.2).row
      rw [HN.out] at hrow
      obtain ⟨g1, cap1, cur, e, -⟩ := hrow.block (by omega)
      cases e
      have d0 := Rw.cells hrow _ _ h1
      have d1 := Rw.cells hrow _ _ h2
      have d2 := Rw.cells hrow _ _ h3
      have d3 := Rw.cells hrow _ _ h4
      obtain ⟨hnm, hna⟩ := HNUM.out _ (getD_in (z := (zI, undef)) hkx)
      have harm := (HIR.out.arms _ (getD_in (z := (zI, undef)) hkx)).1
      obtain ⟨ao, cp, he, hal⟩ := rw_armLies harm hnm.arms
      have hno : ao = none → cp = 0 := by
        rw [he] at harm
        intro e0
        subst e0
        rcases harm.2 with ⟨q, _⟩ | ⟨_, _, _, q, _⟩
        · simp only [Value.slice.injEq] at q; exact q.2.2
        · simp at q
      have hil : InLies w (qs.getD k (zI, undef)).1 ao := ⟨hnm.op, hnm.a, hnm.b, hal⟩
      rw [he] at d3
      have hpw := HPR.out.belowR HBY.out.2.2
      obtain ⟨g2, cap2, cur2, e2, -⟩ := hpw.block (by omega)
      cases e2
      have p0 := Rw.cells hpw k _ (intC_get pl k (by rw [HPL.out]; exact hlt))
      have HRT : Hid (∀ W {vo ps next}, LsAt w.heap.size W gN gH gO (.slice ah NH ch) vo H ps next → Below w.heap.size w W → Calls Tryz.prog 67 #[insV (qs.getD k (zI, undef)).1 (.slice ao (qs.getD k (zI, undef)).1.arms.length cp), .func (.func 70) #[] #[.pointer (some ⟨gH, 0, none⟩)]] W (RtR W (atI (numF H) (qs.getD k (zI, undef)).1))) := fun W {vo ps next} q1 q2 => lnretarget_as (PR := fun _ => H ≠ []) (hil.below q2) _ rfl hno hna 70 fnNum _ (numF H) (HNE.out _ (getD_in (z := (zI, undef)) hkx)) (fun W' t q3 q4 => lnnum_as (q1.hd.below q3) (by have := q1.hr.row.belowR q3; rw [HNH.out] at this ⊢; exact this) q4 HSO.out HHL.out t)
      have HLN : Hid (∀ v, LkAt H ys (k + 1) ((reachP H ps next ((pl.getD k 0 : Nat) : Int)).1 ++ [(0, atI (numF H) (qs.getD k (zI, undef)).1, v)]) (reachP H ps next ((pl.getD k 0 : Nat) : Int)).2) := fun v => HLK.out.next (HYS.out k hlt) v
      have HRE : Hid (∀ W, LsAt w.heap.size W gN gH gO (.slice ah NH ch) vo H ps next → Calls Tryz.prog 72 #[.int .i64 ((pl.getD k 0 : Nat) : Int), .pointer (some ⟨gN, 0, none⟩), .pointer (some ⟨gH, 0, none⟩), .pointer (some ⟨gO, 0, none⟩)] W fun e w' => e = .returned (.tuple #[]) ∧ ∃ vo', LsAt w.heap.size w' gN gH gO (.slice ah NH ch) vo' H (reachP H ps next ((pl.getD k 0 : Nat) : Int)).1 (reachP H ps next ((pl.getD k 0 : Nat) : Int)).2 ∧ Kp w.heap.size W w') := fun W q => lnreach_as q HHL.out hnx7 (by omega) _
      have HP2 : Hid ((reachP H ps next ((pl.getD k 0 : Nat) : Int)).1.length ≤ 10000000) := by
        unfold Hid reachP
        split
        · simp; omega
        · simp; omega
      clear h1 h2 h3 h4 hrow hnm hna harm he hal hno hil hkx HLK hpw
      unfold insV at HRT
      generalize atI (numF H) (qs.getD k (zI, undef)).1 = AI at *
      generalize (reachP H ps next ((pl.getD k 0 : Nat) : Int)).1 = ps2 at *
      generalize (reachP H ps next ((pl.getD k 0 : Nat) : Int)).2 = next2 at *
      generalize ((pl.getD k 0 : Nat) : Int) = PK at *
      generalize (qs.getD k (zI, undef)).1 = Y at *
      generalize (Y.op : Int) = zO at *
      generalize Y.a = zA at *
      generalize Y.b = zB at *
      generalize Y.arms.length = zn at *
      have hlt2 : (k : Int) < (n : Int) := by omega
      have hk0 : (0 : Int) ≤ (k : Int) := by omega
      have oX := Own.new wr #[.int .u8 zO, .int .i64 zA, .int .i64 zB, .slice ao zn cp] 43
      have hb4 := new_below wr (.cells #[.int .u8 zO, .int .i64 zA, .int .i64 zB, .slice ao zn cp] 43)
      go_upto_region 9 with fail
      generalize wr.alloc (.cells #[.int .u8 zO, .int .i64 zA, .int .i64 zB, .slice ao zn cp] 43) = w4 at *
      have p1 := (Below.cell (p := ⟨g2, k, none⟩) hb4 (World.block_lt_of_cell? wr _ p0)).trans p0
      have HL4 : Hid (LsAt w.heap.size w4 gN gH gO (.slice ah NH ch) vo H ps next) := HBY.out.1.below hb4
      have HX4 : Hid (Own w4 w.heap.size #[.slice (some ⟨g1, 0, none⟩) n cl, .slice (some ⟨g2, 0, none⟩) n cpp, .int .i64 sz] 72) := HBY.out.2.1.below hb4
      have HB4 : Hid (Below w.heap.size w w4) := HBY.out.2.2.trans (hb4.mono HBY.out.2.2.size)
      have c1 := HX4.out.cell 1
      simp only [List.getElem?_toArray, List.getElem?_cons_zero, List.getElem?_cons_succ] at c1
      clear d0 d1 d2 d3 p0 hb4 HBY
      go_wp2_with (first | (refine Calls.mono (HRE.out w4 HL4.out) ?_) | fail)
      rintro e w7 ⟨rfl, vo2, hl7, hk7⟩
      have hdr : Below w7.heap.size w7 w7.drew := (Below.refl _ _).drew
      have HL7d : Hid (LsAt w.heap.size w7.drew gN gH gO (.slice ah NH ch) vo2 H ps2 next2) := hl7.below hdr
      have HX7d : Hid (Own w7.drew w.heap.size #[.slice (some ⟨g1, 0, none⟩) n cl, .slice (some ⟨g2, 0, none⟩) n cpp, .int .i64 sz] 72) := (hk7.typ _ _ _ HX4.out (by decide) (by decide) (by decide)).drew
      have HO7d : Own w7.drew wr.heap.size #[.int .u8 zO, .int .i64 zA, .int .i64 zB, .slice ao zn cp] 43 := (hk7.typ _ _ _ oX (by decide) (by decide) (by decide)).drew
      have HB7d : Hid (Below w.heap.size w w7.drew) := (HB4.out.trans hk7.bel).drew
      have HW7d : Hid (w.heap.size ≤ w7.drew.heap.size) := HB7d.out.size
      obtain ⟨y0, y1, y2, y3, yf⟩ := own4 HO7d
      have l7 := HL7d.out.ou.cell 0
      simp only [List.getElem?_toArray, List.getElem?_cons_zero] at l7
      clear c1 p1 oX hl7 hk7 hdr HO7d HL4 HX4 HB4 HRE
      go_upto_region 10 with fail
      refine wp_region_any (by kernel_rfl) ?_
      change wpAny _ _ _ _ _ _ _ (World.drew _)
      refine wpAny_take (i := 2) (v := ?_) rfl (by kernel_rfl) (by kernel_rfl) (by kernel_rfl) (fun _ _ _ h => h) (Or.inl ⟨by rfl, ?_⟩) ?_
      rotate_left 1
      · (intro w'; go_simp <;> with_reducible rfl)
      try simp only [Act.put, List.setIfInBounds_toArray, List.set_cons_zero, List.set_cons_succ]
      refine wpAny_ready (rs := [0, 1]) (by kernel_rfl) (by simp) ?_
      refine readyH rfl (fun K hK => ?_) (readyH rfl (fun K hK => ?_) AllReady.nil)
      · go_simp
        refine hK.out _ _ ?_
        clear hK K
        try simp only [Act.put, List.setIfInBounds_toArray, List.set_cons_zero, List.set_cons_succ]
        refine wpAny_ready (rs := [1]) (by kernel_rfl) (by simp) ?_
        refine readyH rfl (fun K hK => ?_) AllReady.nil
        go_simp
        refine hK.out _ _ ?_
        clear hK K
        try simp only [Act.put, List.setIfInBounds_toArray, List.set_cons_zero, List.set_cons_succ]
        refine wpAny_ready (rs := [3]) (by kernel_rfl) (by simp) ?_
        refine readyH rfl (fun K hK => ?_) AllReady.nil
        go_simp
        refine (HRT.out _ HL7d.out HB7d.out).mono ?_
        rintro e w8 ⟨vx, rfl, hrx, hnx, b8⟩
        obtain ⟨va, vc, rfl, -⟩ := hrx.shape
        unfold insV
        have HL8 : Hid (LsAt w.heap.size w8 gN gH gO (.slice ah NH ch) vo2 H ps2 next2) := HL7d.out.below b8
        have HX8 : Hid (Own w8 w.heap.size #[.slice (some ⟨g1, 0, none⟩) n cl, .slice (some ⟨g2, 0, none⟩) n cpp, .int .i64 sz] 72) := HX7d.out.below b8
        have l8 := HL8.out.ou.cell 0
        simp only [List.getElem?_toArray, List.getElem?_cons_zero] at l8
        have oE := Own.new w8 #[.int .i64 0, .int .u8 (AI.op : Int), .int .i64 AI.a, .int .i64 AI.b, .slice va AI.arms.length vc] 56
        have hA9 := HL8.out.below (new_below w8 (.cells #[.int .i64 0, .int .u8 (AI.op : Int), .int .i64 AI.a, .int .i64 AI.b, .slice va AI.arms.length vc] 56))
        have l9 := hA9.ou.cell 0
        simp only [List.getElem?_toArray, List.getElem?_cons_zero] at l9
        obtain ⟨al2, cap2, wz, hr, f1, f2, f3⟩ := run_app1 okL (w8.alloc (.cells #[.int .i64 0, .int .u8 (AI.op : Int), .int .i64 AI.a, .int .i64 AI.b, .slice va AI.arms.length vc] 56)) 22 vo2 ps2.length (lnC ps2) hA9.row.row w8.heap.size [.int .i64 0, .int .u8 (AI.op : Int), .int .i64 AI.a, .int .i64 AI.b, .slice va AI.arms.length vc] oE rfl (by simp [Value.oneCell']) HP2.out
        obtain ⟨j1, j2⟩ := HL8.out.put (new_below w8 _) (0, AI, .slice va AI.arms.length vc) rfl f1 f2 f3 (hrx.alloc _) (fun b e => Nat.le_trans HW7d.out (hnx b e))
        have HJ1 : Hid _ := j1
        have HJ3 : Hid (Own (wz.setCell ⟨gO, 0, none⟩ (.slice al2 (ps2.length + 1) cap2)) w.heap.size #[.slice (some ⟨g1, 0, none⟩) n cl, .slice (some ⟨g2, 0, none⟩) n cpp, .int .i64 sz] 72) := j2.typ _ _ _ HX8.out (by decide) (by decide) (by decide)
        have HJ4 : Hid (Below w.heap.size w (wz.setCell ⟨gO, 0, none⟩ (.slice al2 (ps2.length + 1) cap2))) := (HB7d.out.trans (b8.mono HB7d.out.size)).trans j2.bel
        have oo : Own wz gO #[vo2] 22 := hA9.ou.grown f2 (fun e => hA9.row.row.ne hA9.ou (by decide) e.symm)
        have n0 := oo.cell 0
        have nf := oo.froz
        simp only [List.getElem?_toArray, List.getElem?_cons_zero] at n0
        have HRUN : Hid _ := hr
        clear hr f1 f2 f3 j1 j2 hrx hnx b8 oE oo hA9
        go_wp2_with fail
        refine hK.out _ _ ?_
        clear hK K
        try simp only [Act.put, List.setIfInBounds_toArray, List.set_cons_zero, List.set_cons_succ]
        refine wpAny_ready (rs := [4]) (by kernel_rfl) (by simp) ?_
        refine readyH rfl (fun K hK => ?_) AllReady.nil
        go_simp
        refine hK.out _ _ ?_
        clear hK K
        try simp only [Act.put, List.setIfInBounds_toArray, List.set_cons_zero, List.set_cons_succ]
        refine wpAny_ready (rs := [5]) (by kernel_rfl) (by simp) ?_
        refine readyH rfl (fun K hK => ?_) AllReady.nil
        go_simp
        refine hK.out _ _ ?_
        clear hK K
        try simp only [Act.put, List.setIfInBounds_toArray, List.set_cons_zero, List.set_cons_succ]
        refine wpAny_ready (rs := [6]) (by kernel_rfl) (by simp) ?_
        refine readyH rfl (fun K hK => ?_) AllReady.nil
        rw [if_pos (by rfl)]
        refine wp_app_run (.tmp 30) (.tmp 35) (by rfl) (by rfl) (by rfl) HRUN.out ?_
        refine hK.out _ _ ?_
        clear hK K
        try simp only [Act.put, List.setIfInBounds_toArray, List.set_cons_zero, List.set_cons_succ]
        refine wpAny_ready (rs := [7]) (by kernel_rfl) (by simp) ?_
        refine readyH rfl (fun K hK => ?_) AllReady.nil
        go_simp
        refine hK.out _ _ ?_
        clear hK K
        try simp only [Act.put, List.setIfInBounds_toArray, List.set_cons_zero, List.set_cons_succ]
        refine wpAny_done (by kernel_rfl) ?_ _
        go_wp2_with fail
        go_roundg gq
        case measure => omega
        case rel => exact ⟨k + 1, _, _, _, HKQ.out, by go_num, ⟨HJ1.out, HJ3.out, HJ4.out⟩, HLN.out _⟩
      · go_simp
        refine hK.out _ _ ?_
        clear hK K
        try simp only [Act.put, List.setIfInBounds_toArray, List.set_cons_zero, List.set_cons_succ]
        refine wpAny_ready (rs := [0, 3]) (by kernel_rfl) (by simp) ?_
        refine readyH rfl (fun K hK => ?_) (readyH rfl (fun K hK => ?_) AllReady.nil)
        · go_simp
          refine hK.out _ _ ?_
          clear hK K
          try simp only [Act.put, List.setIfInBounds_toArray, List.set_cons_zero, List.set_cons_succ]
          refine wpAny_ready (rs := [3]) (by kernel_rfl) (by simp) ?_
          refine readyH rfl (fun K hK => ?_) AllReady.nil
          go_simp
          refine (HRT.out _ HL7d.out HB7d.out).mono ?_
          rintro e w8 ⟨vx, rfl, hrx, hnx, b8⟩
          obtain ⟨va, vc, rfl, -⟩ := hrx.shape
          unfold insV
          have HL8 : Hid (LsAt w.heap.size w8 gN gH gO (.slice ah NH ch) vo2 H ps2 next2) := HL7d.out.below b8
          have HX8 : Hid (Own w8 w.heap.size #[.slice (some ⟨g1, 0, none⟩) n cl, .slice (some ⟨g2, 0, none⟩) n cpp, .int .i64 sz] 72) := HX7d.out.below b8
          have l8 := HL8.out.ou.cell 0
          simp only [List.getElem?_toArray, List.getElem?_cons_zero] at l8
          have oE := Own.new w8 #[.int .i64 0, .int .u8 (AI.op : Int), .int .i64 AI.a, .int .i64 AI.b, .slice va AI.arms.length vc] 56
          have hA9 := HL8.out.below (new_below w8 (.cells #[.int .i64 0, .int .u8 (AI.op : Int), .int .i64 AI.a, .int .i64 AI.b, .slice va AI.arms.length vc] 56))
          have l9 := hA9.ou.cell 0
          simp only [List.getElem?_toArray, List.getElem?_cons_zero] at l9
          obtain ⟨al2, cap2, wz, hr, f1, f2, f3⟩ := run_app1 okL (w8.alloc (.cells #[.int .i64 0, .int .u8 (AI.op : Int), .int .i64 AI.a, .int .i64 AI.b, .slice va AI.arms.length vc] 56)) 22 vo2 ps2.length (lnC ps2) hA9.row.row w8.heap.size [.int .i64 0, .int .u8 (AI.op : Int), .int .i64 AI.a, .int .i64 AI.b, .slice va AI.arms.length vc] oE rfl (by simp [Value.oneCell']) HP2.out
          obtain ⟨j1, j2⟩ := HL8.out.put (new_below w8 _) (0, AI, .slice va AI.arms.length vc) rfl f1 f2 f3 (hrx.alloc _) (fun b e => Nat.le_trans HW7d.out (hnx b e))
          have HJ1 : Hid _ := j1
          have HJ3 : Hid (Own (wz.setCell ⟨gO, 0, none⟩ (.slice al2 (ps2.length + 1) cap2)) w.heap.size #[.slice (some ⟨g1, 0, none⟩) n cl, .slice (some ⟨g2, 0, none⟩) n cpp, .int .i64 sz] 72) := j2.typ _ _ _ HX8.out (by decide) (by decide) (by decide)
          have HJ4 : Hid (Below w.heap.size w (wz.setCell ⟨gO, 0, none⟩ (.slice al2 (ps2.length + 1) cap2))) := (HB7d.out.trans (b8.mono HB7d.out.size)).trans j2.bel
          have oo : Own wz gO #[vo2] 22 := hA9.ou.grown f2 (fun e => hA9.row.row.ne hA9.ou (by decide) e.symm)
          have n0 := oo.cell 0
          have nf := oo.froz
          simp only [List.getElem?_toArray, List.getElem?_cons_zero] at n0
          have HRUN : Hid _ := hr
          clear hr f1 f2 f3 j1 j2 hrx hnx b8 oE oo hA9
          go_wp2_with fail
          refine hK.out _ _ ?_
          clear hK K
          try simp only [Act.put, List.setIfInBounds_toArray, List.set_cons_zero, List.set_cons_succ]
          refine wpAny_ready (rs := [4]) (by kernel_rfl) (by simp) ?_
          refine readyH rfl (fun K hK => ?_) AllReady.nil
          go_simp
          refine hK.out _ _ ?_
          clear hK K
          try simp only [Act.put, List.setIfInBounds_toArray, List.set_cons_zero, List.set_cons_succ]
          refine wpAny_ready (rs := [5]) (by kernel_rfl) (by simp) ?_
          refine readyH rfl (fun K hK => ?_) AllReady.nil
          go_simp
          refine hK.out _ _ ?_
          clear hK K
          try simp only [Act.put, List.setIfInBounds_toArray, List.set_cons_zero, List.set_cons_succ]
          refine wpAny_ready (rs := [6]) (by kernel_rfl) (by simp) ?_
          refine readyH rfl (fun K hK => ?_) AllReady.nil
          rw [if_pos (by rfl)]
          refine wp_app_run (.tmp 30) (.tmp 35) (by rfl) (by rfl) (by rfl) HRUN.out ?_
          refine hK.out _ _ ?_
          clear hK K
          try simp only [Act.put, List.setIfInBounds_toArray, List.set_cons_zero, List.set_cons_succ]
          refine wpAny_ready (rs := [7]) (by kernel_rfl) (by simp) ?_
          refine readyH rfl (fun K hK => ?_) AllReady.nil
          go_simp
          refine hK.out _ _ ?_
          clear hK K
          try simp only [Act.put, List.setIfInBounds_toArray, List.set_cons_zero, List.set_cons_succ]
          refine wpAny_done (by kernel_rfl) ?_ _
          go_wp2_with fail
          go_roundg gq
          case measure => omega
          case rel => exact ⟨k + 1, _, _, _, HKQ.out, by go_num, ⟨HJ1.out, HJ3.out, HJ4.out⟩, HLN.out _⟩
        · go_simp
          refine (HRT.out _ HL7d.out HB7d.out).mono ?_
          rintro e w8 ⟨vx, rfl, hrx, hnx, b8⟩
          obtain ⟨va, vc, rfl, -⟩ := hrx.shape
          unfold insV
          have HL8 : Hid (LsAt w.heap.size w8 gN gH gO (.slice ah NH ch) vo2 H ps2 next2) := HL7d.out.below b8
          have HX8 : Hid (Own w8 w.heap.size #[.slice (some ⟨g1, 0, none⟩) n cl, .slice (some ⟨g2, 0, none⟩) n cpp, .int .i64 sz] 72) := HX7d.out.below b8
          have l8 := HL8.out.ou.cell 0
          simp only [List.getElem?_toArray, List.getElem?_cons_zero] at l8
          have oE := Own.new w8 #[.int .i64 0, .int .u8 (AI.op : Int), .int .i64 AI.a, .int .i64 AI.b, .slice va AI.arms.length vc] 56
          have hA9 := HL8.out.below (new_below w8 (.cells #[.int .i64 0, .int .u8 (AI.op : Int), .int .i64 AI.a, .int .i64 AI.b, .slice va AI.arms.length vc] 56))
          have l9 := hA9.ou.cell 0
          simp only [List.getElem?_toArray, List.getElem?_cons_zero] at l9
          obtain ⟨al2, cap2, wz, hr, f1, f2, f3⟩ := run_app1 okL (w8.alloc (.cells #[.int .i64 0, .int .u8 (AI.op : Int), .int .i64 AI.a, .int .i64 AI.b, .slice va AI.arms.length vc] 56)) 22 vo2 ps2.length (lnC ps2) hA9.row.row w8.heap.size [.int .i64 0, .int .u8 (AI.op : Int), .int .i64 AI.a, .int .i64 AI.b, .slice va AI.arms.length vc] oE rfl (by simp [Value.oneCell']) HP2.out
          obtain ⟨j1, j2⟩ := HL8.out.put (new_below w8 _) (0, AI, .slice va AI.arms.length vc) rfl f1 f2 f3 (hrx.alloc _) (fun b e => Nat.le_trans HW7d.out (hnx b e))
          have HJ1 : Hid _ := j1
          have HJ3 : Hid (Own (wz.setCell ⟨gO, 0, none⟩ (.slice al2 (ps2.length + 1) cap2)) w.heap.size #[.slice (some ⟨g1, 0, none⟩) n cl, .slice (some ⟨g2, 0, none⟩) n cpp, .int .i64 sz] 72) := j2.typ _ _ _ HX8.out (by decide) (by decide) (by decide)
          have HJ4 : Hid (Below w.heap.size w (wz.setCell ⟨gO, 0, none⟩ (.slice al2 (ps2.length + 1) cap2))) := (HB7d.out.trans (b8.mono HB7d.out.size)).trans j2.bel
          have oo : Own wz gO #[vo2] 22 := hA9.ou.grown f2 (fun e => hA9.row.row.ne hA9.ou (by decide) e.symm)
          have n0 := oo.cell 0
          have nf := oo.froz
          simp only [List.getElem?_toArray, List.getElem?_cons_zero] at n0
          have HRUN : Hid _ := hr
          clear hr f1 f2 f3 j1 j2 hrx hnx b8 oE oo hA9
          go_wp2_with fail
          refine hK.out _ _ ?_
          clear hK K
          try simp only [Act.put, List.setIfInBounds_toArray, List.set_cons_zero, List.set_cons_succ]
          refine wpAny_ready (rs := [0, 4]) (by kernel_rfl) (by simp) ?_
          refine readyH rfl (fun K hK => ?_) (readyH rfl (fun K hK => ?_) AllReady.nil)
          · go_simp
            refine hK.out _ _ ?_
            clear hK K
            try simp only [Act.put, List.setIfInBounds_toArray, List.set_cons_zero, List.set_cons_succ]
            refine wpAny_ready (rs := [4]) (by kernel_rfl) (by simp) ?_
            refine readyH rfl (fun K hK => ?_) AllReady.nil
            go_simp
            refine hK.out _ _ ?_
            clear hK K
            try simp only [Act.put, List.setIfInBounds_toArray, List.set_cons_zero, List.set_cons_succ]
            refine wpAny_ready (rs := [5]) (by kernel_rfl) (by simp) ?_
            refine readyH rfl (fun K hK => ?_) AllReady.nil
            go_simp
            refine hK.out _ _ ?_
            clear hK K
            try simp only [Act.put, List.setIfInBounds_toArray, List.set_cons_zero, List.set_cons_succ]
            refine wpAny_ready (rs := [6]) (by kernel_rfl) (by simp) ?_
            refine readyH rfl (fun K hK => ?_) AllReady.nil
            rw [if_pos (by rfl)]
            refine wp_app_run (.tmp 30) (.tmp 35) (by rfl) (by rfl) (by rfl) HRUN.out ?_
            refine hK.out _ _ ?_
            clear hK K
            try simp only [Act.put, List.setIfInBounds_toArray, List.set_cons_zero, List.set_cons_succ]
            refine wpAny_ready (rs := [7]) (by kernel_rfl) (by simp) ?_
            refine readyH rfl (fun K hK => ?_) AllReady.nil
            go_simp
            refine hK.out _ _ ?_
            clear hK K
            try simp only [Act.put, List.setIfInBounds_toArray, List.set_cons_zero, List.set_cons_succ]
            refine wpAny_done (by kernel_rfl) ?_ _
            go_wp2_with fail
            go_roundg gq
            case measure => omega
            case rel => exact ⟨k + 1, _, _, _, HKQ.out, by go_num, ⟨HJ1.out, HJ3.out, HJ4.out⟩, HLN.out _⟩
          · go_simp
            refine hK.out _ _ ?_
            clear hK K
            try simp only [Act.put, List.setIfInBounds_toArray, List.set_cons_zero, List.set_cons_succ]
            refine wpAny_ready (rs := [0, 5]) (by kernel_rfl) (by simp) ?_
            refine readyH rfl (fun K hK => ?_) (readyH rfl (fun K hK => ?_) AllReady.nil)
            · go_simp
              refine hK.out _ _ ?_
              clear hK K
              try simp only [Act.put, List.setIfInBounds_toArray, List.set_cons_zero, List.set_cons_succ]
              refine wpAny_ready (rs := [5]) (by kernel_rfl) (by simp) ?_
              refine readyH rfl (fun K hK => ?_) AllReady.nil
              go_simp
              refine hK.out _ _ ?_
              clear hK K
              try simp only [Act.put, List.setIfInBounds_toArray, List.set_cons_zero, List.set_cons_succ]
              refine wpAny_ready (rs := [6]) (by kernel_rfl) (by simp) ?_
              refine readyH rfl (fun K hK => ?_) AllReady.nil
              rw [if_pos (by rfl)]
              refine wp_app_run (.tmp 30) (.tmp 35) (by rfl) (by rfl) (by rfl) HRUN.out ?_
              refine hK.out _ _ ?_
              clear hK K
              try simp only [Act.put, List.setIfInBounds_toArray, List.set_cons_zero, List.set_cons_succ]
              refine wpAny_ready (rs := [7]) (by kernel_rfl) (by simp) ?_
              refine readyH rfl (fun K hK => ?_) AllReady.nil
              go_simp
              refine hK.out _ _ ?_
              clear hK K
              try simp only [Act.put, List.setIfInBounds_toArray, List.set_cons_zero, List.set_cons_succ]
              refine wpAny_done (by kernel_rfl) ?_ _
              go_wp2_with fail
              go_roundg gq
              case measure => omega
              case rel => exact ⟨k + 1, _, _, _, HKQ.out, by go_num, ⟨HJ1.out, HJ3.out, HJ4.out⟩, HLN.out _⟩
            · go_simp
              refine hK.out _ _ ?_
              clear hK K
              try simp only [Act.put, List.setIfInBounds_toArray, List.set_cons_zero, List.set_cons_succ]
              refine wpAny_ready (rs := [0]) (by kernel_rfl) (by simp) ?_
              refine readyH rfl (fun K hK => ?_) AllReady.nil
              go_simp
              refine hK.out _ _ ?_
              clear hK K
              try simp only [Act.put, List.setIfInBounds_toArray, List.set_cons_zero, List.set_cons_succ]
              refine wpAny_ready (rs := [6]) (by kernel_rfl) (by simp) ?_
              refine readyH rfl (fun K hK => ?_) AllReady.nil
              rw [if_pos (by rfl)]
              refine wp_app_run (.tmp 30) (.tmp 35) (by rfl) (by rfl) (by rfl) HRUN.out ?_
              refine hK.out _ _ ?_
              clear hK K
              try simp only [Act.put, List.setIfInBounds_toArray, List.set_cons_zero, List.set_cons_succ]
              refine wpAny_ready (rs := [7]) (by kernel_rfl) (by simp) ?_
              refine readyH rfl (fun K hK => ?_) AllReady.nil
              go_simp
              refine hK.out _ _ ?_
              clear hK K
              try simp only [Act.put, List.setIfInBounds_toArray, List.set_cons_zero, List.set_cons_succ]
              refine wpAny_done (by kernel_rfl) ?_ _
              go_wp2_with fail
              go_roundg gq
              case measure => omega
              case rel => exact ⟨k + 1, _, _, _, HKQ.out, by go_num, ⟨HJ1.out, HJ3.out, HJ4.out⟩, HLN.out _⟩
    | zero =>
      obtain rfl : k = n := by omega
      have HDN : Hid (((reachP H ps next sz).1.map qL, (reachP H ps next sz).2) = linesM H ys sz) := by
        have := HLK.out
        rw [← HYL.out] at this
        exact this.done sz
      have HRE : Hid (∀ W, LsAt w.heap.size W gN gH gO (.slice ah NH ch) vo H ps next → Calls Tryz.prog 72 #[.int .i64 sz, .pointer (some ⟨gN, 0, none⟩), .pointer (some ⟨gH, 0, none⟩), .pointer (some ⟨gO, 0, none⟩)] W fun e w' => e = .returned (.tuple #[]) ∧ ∃ vo', LsAt w.heap.size w' gN gH gO (.slice ah NH ch) vo' H (reachP H ps next sz).1 (reachP H ps next sz).2 ∧ Kp w.heap.size W w') := fun W q => lnreach_as q HHL.out hnx7 (by omega) _
      have c2 := HBY.out.2.1.cell 2
      simp only [List.getElem?_toArray, List.getElem?_cons_zero, List.getElem?_cons_succ] at c2
      generalize (reachP H ps next sz).1 = ps2 at *
      generalize (reachP H ps next sz).2 = next2 at *
      clear HLK
      go_wp2_with (first | (refine Calls.mono (HRE.out wr HBY.out.1) ?_) | fail)
      rintro e w7 ⟨rfl, vo2, hl7, hk7⟩
      have HB7 : Hid (Below w.heap.size w w7) := HBY.out.2.2.trans hk7.bel
      have HL7 : Hid (LsAt w.heap.size w7 gN gH gO (.slice ah NH ch) vo2 H ps2 next2) := hl7
      have m0 := hl7.nx.cell 0
      have m1 := hl7.hd.cell 0
      have m2 := hl7.ou.cell 0
      simp only [List.getElem?_toArray, List.getElem?_cons_zero] at m0 m1 m2
      clear c2 hl7 hk7 HBY HRE
      have hb : ((next2 : Int) == (NH : Int)) = decide (next2 = H.length) := by
        rw [HNH.out]
        by_cases e : next2 = NH
        · subst e; simp
        · have : ((next2 : Int) == (NH : Int)) = false := by rw [beq_eq_false_iff_ne]; omega
          rw [this]; simp [e]
      have HF : Hid (LinR w (linesM H ys sz) H.length (.returned (.tuple #[vo2, .bool ((next2 : Int) == (NH : Int))])) w7.drew) := by
        rw [← HDN.out, hb]
        exact ⟨vo2, ps2, rfl, rfl, HL7.out.row.below (Below.refl _ _).drew, HB7.out.drew⟩
      clear HL7 HB7 HDN hb
      go_upto_region 13 with fail
      go_region
      go_wp2
      go_ret2
      exact HF.out
end Go.Proofs.YtkmmnocooibljaaGreatDoor
