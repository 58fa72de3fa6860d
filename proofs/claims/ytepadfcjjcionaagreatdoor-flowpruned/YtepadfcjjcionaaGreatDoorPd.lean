/-
  CONTRACT of the statement's own pruning of a term.
-/
import Derived.Test.YtepadfcjjcionaaGreatDoorBr
namespace Go.Proofs.YtepadfcjjcionaaGreatDoor
open Go.RowKit
set_option linter.unusedVariables false

theorem fn12 : FnIs 12 := fun b w => by kernel_rfl
theorem St.below {w0 w : World} {cells : Array Value} {op ty n : Int} {tx : ByteArray} {done : List Tm} {ao : Option Addr} {j cap : Nat} {xs : List Value} {wr wx : World} (h : St w0 w cells op ty n tx done ao j cap xs wr) (hb : Below wr.heap.size wr wx) : St w0 w cells op ty n tx done ao j cap xs wx :=
  ⟨h.len, h.out.below hb, row_below h.row hb, h.bnd, h.parts.on fun g o hS ho => ⟨hS, (hb.block g (Array.getElem?_eq_some_iff.1 ho).1).trans ho⟩, h.own.below hb, h.res.below hb, h.bel.trans (hb.mono h.bel.size)⟩
set_option maxRecDepth 100000 in
set_option maxHeartbeats 8000000 in
theorem pruned_step {N : Nat} (hp : PrOk N) : PrOk (N + 1) := by
  intro w0 w op ty n tx ks kv hcN hc1 hk hb
  show Calls Tryz.prog 8 _ w fun en w' => ∃ kv', en = .returned (.agg #[.int .u8 op, .int .i64 ty, .int .i64 n, .string tx, kv']) ∧ KidsP (SC w0 w) w' kv' (rowF (prF N) op ks.length 0 ks) ∧ Below w.heap.size w w'
  obtain ⟨ao, cap, rfl, hl1, hl2, _⟩ := id hk
  obtain ⟨m, hm⟩ : ∃ m, ks.length = m := ⟨_, rfl⟩
  have HM : Hid (ks.length = m) := hm
  have HP : Hid (PrOk N) := hp
  have HK : Hid (KidsR w0 (.slice ao m cap) ks) := by rw [← hm]; exact hk
  have HB : Hid (Below w0.heap.size w0 w) := hb
  have HC : Hid (cnt.cntL ks < N ∧ cnt.cntL ks ≤ 999) := by unfold Hid; rw [cnt_parts] at hcN hc1; exact ⟨by simp only at hcN; omega, by simp only at hc1; omega⟩
  have hl : ks.length ≤ 1000 := Nat.le_trans (len_cnt ks) (Nat.le_trans HC.out.2 (by omega))
  rw [hm] at hl1 hl ⊢
  clear hk hm hb hcN hc1 hp
  go_enter Tryz.func8, Tryz.ntmps8
  go_wp2_with fail
  go_loopg [4] m (fun g iv wr => BRel w0 w #[.int .u8 op, .int .i64 ty, .int .i64 n, .string tx, .slice ao m cap] op ty n tx (rowF (prF N) op m 0 ks) (fun j => rowF (prF N) op m j (ks.drop j)) m g iv wr)
  case atStart => exact ⟨0, [], none, 0, [], by omega, rfl, rfl, st_start _ _ _ _ _ _ _⟩
  case round =>
    obtain ⟨j, done, al, cl, xs, hj, rfl, hfull, hst⟩ := hrel
    have hsz := hst.size
    have hw0 : w0.heap.size ≤ w.heap.size := HB.out.size
    obtain ⟨a0, a1, a2, a3, a4, _⟩ := hst.own.five
    obtain ⟨b0, b1, b2, b3, b4, b5⟩ := hst.out.five
    have HST : Hid (St w0 w #[.int .u8 op, .int .i64 ty, .int .i64 n, .string tx, .slice ao m cap] op ty n tx done al j cl xs wr) := hst
    have HFU : Hid (rowF (prF N) op m 0 ks = done ++ rowF (prF N) op m j (ks.drop j)) := hfull
    have lA := hst.own.lt
    have lO := hst.out.lt
    clear hst hfull
    by_cases hlt : j < m
    · have i1 : (j : Int) < (m : Int) := by omega
      obtain ⟨u, hu⟩ : ∃ u, ks[j]? = some u := ⟨ks[j]'(by rw [HM.out]; exact hlt), List.getElem?_eq_getElem _⟩
      have HD : Hid (ks.drop j = u :: ks.drop (j + 1)) := by
        unfold Hid
        obtain ⟨hj', hu'⟩ := List.getElem?_eq_some_iff.1 hu
        rw [List.drop_eq_getElem_cons hj', hu']
      have hcu := cnt_get hu
      obtain ⟨g2, q2, aj, cj, rfl, hg2, hin, hW⟩ := kids_cells HK.out j u hu
      have hbr : Below w0.heap.size w0 wr := HB.out.trans (HST.out.bel.mono HB.out.size)
      obtain ⟨f0, f1, f2, f3, f4, _⟩ := hW wr (fun k hk => hbr.block k hk)
      obtain ⟨_, _, _, _, _, hku⟩ := hW w0 (fun _ _ => rfl)
      have hg2r : g2 < wr.heap.size := Nat.lt_of_lt_of_le hg2 hbr.size
      have HG : Hid (1 ≤ gk ∧ j + 1 + (gk - 1) = m) := by unfold Hid; omega
      obtain ⟨uo, ut, un, ux, uk⟩ := u
      simp only at f0 f1 f2 f3 f4 hku hin
      obtain ⟨um, hum⟩ : ∃ um, uk.length = um := ⟨_, rfl⟩
      have HKU : Hid (KidsR w0 (.slice aj um cj) uk) := by unfold Hid; rw [← hum]; exact hku
      rw [hum] at f4
      have HIN : Hid (inr un) := hin
      have HCU : Hid (cnt ⟨uo, ut, un, ux, uk⟩ < N ∧ cnt ⟨uo, ut, un, ux, uk⟩ ≤ 1000) := by unfold Hid; have := HC.out; omega
      have hum2 : um ≤ cj ∧ cj ≤ 9223372036854775807 := by
        obtain ⟨aq, cq, e, z1, z2, _⟩ := HKU.out
        cases e
        exact ⟨by omega, z2⟩
      have HBR : Hid (Below w0.heap.size w0 wr) := hbr
      have HW0 : Hid (w0.heap.size ≤ w.heap.size) := hw0
      have nb : ∀ b, b < w.heap.size + 3 → (Value.slice al j cl).ownBlock ≠ some b := fun b hb e => by have := HST.out.bnd b e; omega
      have HNB : Hid (∀ b, b < w.heap.size + 3 → (Value.slice al j cl).ownBlock ≠ some b) := nb
      have HMU : Hid (uk.length = um) := hum
      clear nb hW hku hin hu hcu hum hbr
      by_cases h10 : op = 10
      · subst h10
        by_cases hj0 : 0 < j
        · have i2 : (0 : Int) < (j : Int) := by omega
          by_cases hjl : j + 1 < m
          · have i3 : (j : Int) < (m : Int) - 1 := by omega
            obtain ⟨bk, hbk⟩ : ∃ bk, brF (prF N) uk.length 0 uk = bk := ⟨_, rfl⟩
            have HBK : Hid (brT (prF N) ⟨uo, ut, un, ux, uk⟩ = ⟨uo, ut, un, ux, bk⟩) := by unfold Hid brT; rw [← hbk]
            have BRC := branch_as HP.out (w := wr.drew) (op := uo) (ty := ut) (n := un) (tx := ux) (show cnt.cntL uk < N by have h1 := HCU.out.1; rw [cnt_parts] at h1; simp only at h1; omega) (show cnt.cntL uk ≤ 999 by have h1 := HCU.out.2; rw [cnt_parts] at h1; simp only at h1; omega) (show uk.length ≤ 1000 by have h0 := len_cnt uk; have h1 := HCU.out.2; rw [cnt_parts] at h1; simp only at h1; omega) HKU.out HBR.out.drew
            rw [hbk] at BRC
            obtain ⟨bl, hbl⟩ : ∃ bl, bk.length = bl := ⟨_, rfl⟩
            have HBL : Hid (bk.length = bl) := hbl
            have HB10 : Hid (0 < j ∧ j + 1 < m) := ⟨hj0, hjl⟩
            have HBRC : Hid _ := BRC
            clear BRC hbk hbl hj0 hjl
            go_wp2_with fail
            go_region_law (first
              | (have hz := row9; clear hz; refine step_appF (by rfl) (.tmp 31) (.tmp 38) (by rfl) _ _ _ (by rfl) row9 _ _ _ _ _ _ _ w1.heap.size (by rfl) o9 (by omega) ?_; intro a3 c3 w3 row3 hg3 hn3; obtain ⟨x0, x1, x2, x3, x4, x5⟩ := (grown_own HO9.out hg3 (HNB.out _ (by omega))).five)
              | (refine step_callN (by rfl) 12 #[.tmp 36] #[24] (by rfl) fn12 _ (by rfl) HBRC.out ?_; rintro en w1 ⟨kv', rfl, hkv, hb1⟩; obtain ⟨a9, c9, rfl, h91, h92, _⟩ := id hkv; rw [HBL.out] at hkv h91; have hb1w : Below wr.heap.size wr w1 := (Below.refl wr.heap.size wr).drew.trans hb1; have oO1 := HST.out.out.below hb1w; obtain ⟨t0, t1, t2, t3, t4, t5⟩ := oO1.five; have lO1 := oO1.lt; have hs1 := hb1w.size; have o9 := Own.new w1 #[.int .u8 uo, .int .i64 ut, .int .i64 un, .string ux, .slice a9 bl c9] 24; have hb9 : Below wr.heap.size wr (w1.alloc (.cells #[.int .u8 uo, .int .i64 ut, .int .i64 un, .string ux, .slice a9 bl c9] 24)) := hb1w.alloc hb1w.size _; have row9 := row_below HST.out.row hb9; have HO9 : Hid _ := HST.out.out.below hb9; have HB9 : Hid _ := hb9; have HKX : Hid (KidsP (SC w0 wr) (w1.alloc (.cells #[.int .u8 uo, .int .i64 ut, .int .i64 un, .string ux, .slice a9 bl c9] 24)) (.slice a9 bl c9) bk) := hkv.on fun g o hS ho => ⟨hS, (Below.heap_alloc w1 _ g (Array.getElem?_eq_some_iff.1 ho).1).trans ho⟩; clear hkv hb1 hb9 oO1; refine ⟨_, rfl, ?_⟩; rw [HBL.out])
              | fail)
            all_goals (
              go_wp2
              go_roundg (gk - 1)
              case rel =>
                refine ⟨j + 1, _, a3, c3, _, HG.out.2, by go_num, ?_, HST.out.app HW0.out HB9.out (u := ⟨uo, ut, un, ux, bk⟩) HKX.out HIN.out row3 hg3 hn3⟩
                rw [HFU.out, HD.out, rowF, if_pos ⟨by first | rfl | trivial, HB10.out⟩, HBK.out, List.append_assoc]
                rfl
              case measure => have := HG.out.1; omega)
          · have i3 : ¬ ((j : Int) < (m : Int) - 1) := by omega
            have HNB10 : Hid (¬ ((10 : Int) = 10 ∧ 0 < j ∧ j + 1 < m)) := fun z => hjl z.2.2
            clear hjl
            have CL := HP.out w0 wr uo ut un ux uk _ HCU.out.1 HCU.out.2 HKU.out HBR.out
            go_wp2_with fail
            refine CL.mono ?_
            rintro en w1 ⟨kv', rfl, hkv, hb1⟩
            obtain ⟨a9, c9, rfl, h91, h92, _⟩ := id hkv
            obtain ⟨pk, hpk⟩ : ∃ pk, (prF N ⟨uo, ut, un, ux, uk⟩).ks = pk := ⟨_, rfl⟩
            have HPE : Hid (prF N ⟨uo, ut, un, ux, uk⟩ = ⟨uo, ut, un, ux, pk⟩) := by unfold Hid; rw [← hpk]; exact prF_eta N _
            rw [hpk] at hkv h91 ⊢
            obtain ⟨pl, hpl⟩ : ∃ pl, pk.length = pl := ⟨_, rfl⟩
            have HKV : Hid (KidsP (SC w0 wr) w1 (.slice a9 pl c9) pk) := by unfold Hid; rw [← hpl]; exact hkv
            rw [hpl] at h91 ⊢
            obtain ⟨hbN, oX9, o9⟩ := newB2 w1 #[.int .u8 uo, .int .i64 ut, .int .i64 un, .string ux, .slice a9 pl c9] #[.int .u8 uo, .int .i64 ut, .int .i64 un, .string ux, .slice a9 pl c9]
            have hb9 : Below wr.heap.size wr ((w1.alloc (.cells #[.int .u8 uo, .int .i64 ut, .int .i64 un, .string ux, .slice a9 pl c9] 24)).alloc (.cells #[.int .u8 uo, .int .i64 ut, .int .i64 un, .string ux, .slice a9 pl c9] 24)) := hb1.trans (hbN.mono hb1.size)
            have row9 := row_below HST.out.row hb9
            have oO1 := HST.out.out.below hb1
            obtain ⟨t0, t1, t2, t3, t4, t5⟩ := oO1.five
            have lO1 := oO1.lt
            have oA1 := HST.out.own.below hb1
            obtain ⟨e0, e1, e2, e3, e4, e5⟩ := oA1.five
            have lA1 := oA1.lt
            have HKX : Hid (KidsP (SC w0 wr) ((w1.alloc (.cells #[.int .u8 uo, .int .i64 ut, .int .i64 un, .string ux, .slice a9 pl c9] 24)).alloc (.cells #[.int .u8 uo, .int .i64 ut, .int .i64 un, .string ux, .slice a9 pl c9] 24)) (.slice a9 pl c9) pk) := HKV.out.on fun g o hS ho => ⟨hS, (hbN.block g (Array.getElem?_eq_some_iff.1 ho).1).trans ho⟩
            have HO9 : Hid _ := HST.out.out.below hb9
            have HX9 : Hid _ := oX9
            have HB9 : Hid _ := hb9
            have hs1 := hb1.size
            clear hb9 hbN hkv hpk hpl CL oX9 oO1 oA1
            go_upto_region 10 with (at_builtin; refine wpList_appF rfl (.tmp 48) (.tmp 50) rfl _ _ _ rfl row9 _ _ _ _ _ _ _ (w1.heap.size + 1) rfl o9 (by omega) ?_; intro a3 c3 w3 row3 hg3 hn3; obtain ⟨x0, x1, x2, x3, x4, x5⟩ := (grown_own HO9.out hg3 (HNB.out _ (by omega))).five)
            have hst2 : St w0 w #[.int .u8 10, .int .i64 ty, .int .i64 n, .string tx, .slice (some ⟨g2, q2, none⟩) m cap] 10 ty n tx (done ++ [⟨uo, ut, un, ux, pk⟩]) a3 (j + 1) c3 (xs ++ [.int .u8 uo, .int .i64 ut, .int .i64 un, .string ux, .slice a9 pl c9]) (w3.setCell ⟨w.heap.size + 1 + 1, 4, none⟩ (.slice a3 (j + 1) c3)) := HST.out.app HW0.out HB9.out (u := ⟨uo, ut, un, ux, pk⟩) HKX.out HIN.out row3 hg3 hn3
            have oX2 : Own (w3.setCell ⟨w.heap.size + 1 + 1, 4, none⟩ (.slice a3 (j + 1) c3)) w1.heap.size #[.int .u8 uo, .int .i64 ut, .int .i64 un, .string ux, .slice a9 pl c9] 24 := (grown_own HX9.out hg3 (fun e => by have := HST.out.own_lt e; omega)).other (by omega) _
            have KX2 : KidsP (SC w0 wr) (w3.setCell ⟨w.heap.size + 1 + 1, 4, none⟩ (.slice a3 (j + 1) c3)) (.slice a9 pl c9) pk := kids_grown HW0.out HST.out hg3 HKX.out
            clear x0 x1 x2 x3 x4 x5 row3 hg3 hn3 row9 o9 t0 t1 t2 t3 t4 t5 e0 e1 e2 e3 e4 e5 lO1 lA1
            generalize hWW : w3.setCell ⟨w.heap.size + 1 + 1, 4, none⟩ (.slice a3 (j + 1) c3) = W2 at *
            clear hWW
            have HS2 : Hid _ := hst2
            obtain ⟨e0, e1, e2, e3, e4, e5⟩ := hst2.own.five
            have lA2 := hst2.own.lt
            clear hst2
            clear oX2 KX2
            go_wp2
            go_roundg (gk - 1)
            case rel =>
              refine ⟨j + 1, _, a3, c3, _, HG.out.2, by go_num, ?_, HS2.out⟩
              rw [HFU.out, HD.out, rowF, if_neg (fun z => HNB10.out ⟨by first | exact z.1 | trivial, z.2⟩), if_neg (fun z => by have := z.1; omega), HPE.out, List.append_assoc]
              rfl
            case measure => have := HG.out.1; omega
        · have i2 : ¬ ((0 : Int) < (j : Int)) := by omega
          have HNB10 : Hid (¬ ((10 : Int) = 10 ∧ 0 < j ∧ j + 1 < m)) := fun z => hj0 z.2.1
          clear hj0
          have CL := HP.out w0 wr uo ut un ux uk _ HCU.out.1 HCU.out.2 HKU.out HBR.out
          go_wp2_with fail
          refine CL.mono ?_
          rintro en w1 ⟨kv', rfl, hkv, hb1⟩
          obtain ⟨a9, c9, rfl, h91, h92, _⟩ := id hkv
          obtain ⟨pk, hpk⟩ : ∃ pk, (prF N ⟨uo, ut, un, ux, uk⟩).ks = pk := ⟨_, rfl⟩
          have HPE : Hid (prF N ⟨uo, ut, un, ux, uk⟩ = ⟨uo, ut, un, ux, pk⟩) := by unfold Hid; rw [← hpk]; exact prF_eta N _
          rw [hpk] at hkv h91 ⊢
          obtain ⟨pl, hpl⟩ : ∃ pl, pk.length = pl := ⟨_, rfl⟩
          have HKV : Hid (KidsP (SC w0 wr) w1 (.slice a9 pl c9) pk) := by unfold Hid; rw [← hpl]; exact hkv
          rw [hpl] at h91 ⊢
          obtain ⟨hbN, oX9, o9⟩ := newB2 w1 #[.int .u8 uo, .int .i64 ut, .int .i64 un, .string ux, .slice a9 pl c9] #[.int .u8 uo, .int .i64 ut, .int .i64 un, .string ux, .slice a9 pl c9]
          have hb9 : Below wr.heap.size wr ((w1.alloc (.cells #[.int .u8 uo, .int .i64 ut, .int .i64 un, .string ux, .slice a9 pl c9] 24)).alloc (.cells #[.int .u8 uo, .int .i64 ut, .int .i64 un, .string ux, .slice a9 pl c9] 24)) := hb1.trans (hbN.mono hb1.size)
          have row9 := row_below HST.out.row hb9
          have oO1 := HST.out.out.below hb1
          obtain ⟨t0, t1, t2, t3, t4, t5⟩ := oO1.five
          have lO1 := oO1.lt
          have oA1 := HST.out.own.below hb1
          obtain ⟨e0, e1, e2, e3, e4, e5⟩ := oA1.five
          have lA1 := oA1.lt
          have HKX : Hid (KidsP (SC w0 wr) ((w1.alloc (.cells #[.int .u8 uo, .int .i64 ut, .int .i64 un, .string ux, .slice a9 pl c9] 24)).alloc (.cells #[.int .u8 uo, .int .i64 ut, .int .i64 un, .string ux, .slice a9 pl c9] 24)) (.slice a9 pl c9) pk) := HKV.out.on fun g o hS ho => ⟨hS, (hbN.block g (Array.getElem?_eq_some_iff.1 ho).1).trans ho⟩
          have HO9 : Hid _ := HST.out.out.below hb9
          have HX9 : Hid _ := oX9
          have HB9 : Hid _ := hb9
          have hs1 := hb1.size
          clear hb9 hbN hkv hpk hpl CL oX9 oO1 oA1
          go_upto_region 10 with (at_builtin; refine wpList_appF rfl (.tmp 48) (.tmp 50) rfl _ _ _ rfl row9 _ _ _ _ _ _ _ (w1.heap.size + 1) rfl o9 (by omega) ?_; intro a3 c3 w3 row3 hg3 hn3; obtain ⟨x0, x1, x2, x3, x4, x5⟩ := (grown_own HO9.out hg3 (HNB.out _ (by omega))).five)
          have hst2 : St w0 w #[.int .u8 10, .int .i64 ty, .int .i64 n, .string tx, .slice (some ⟨g2, q2, none⟩) m cap] 10 ty n tx (done ++ [⟨uo, ut, un, ux, pk⟩]) a3 (j + 1) c3 (xs ++ [.int .u8 uo, .int .i64 ut, .int .i64 un, .string ux, .slice a9 pl c9]) (w3.setCell ⟨w.heap.size + 1 + 1, 4, none⟩ (.slice a3 (j + 1) c3)) := HST.out.app HW0.out HB9.out (u := ⟨uo, ut, un, ux, pk⟩) HKX.out HIN.out row3 hg3 hn3
          have oX2 : Own (w3.setCell ⟨w.heap.size + 1 + 1, 4, none⟩ (.slice a3 (j + 1) c3)) w1.heap.size #[.int .u8 uo, .int .i64 ut, .int .i64 un, .string ux, .slice a9 pl c9] 24 := (grown_own HX9.out hg3 (fun e => by have := HST.out.own_lt e; omega)).other (by omega) _
          have KX2 : KidsP (SC w0 wr) (w3.setCell ⟨w.heap.size + 1 + 1, 4, none⟩ (.slice a3 (j + 1) c3)) (.slice a9 pl c9) pk := kids_grown HW0.out HST.out hg3 HKX.out
          clear x0 x1 x2 x3 x4 x5 row3 hg3 hn3 row9 o9 t0 t1 t2 t3 t4 t5 e0 e1 e2 e3 e4 e5 lO1 lA1
          generalize hWW : w3.setCell ⟨w.heap.size + 1 + 1, 4, none⟩ (.slice a3 (j + 1) c3) = W2 at *
          clear hWW
          have HS2 : Hid _ := hst2
          obtain ⟨e0, e1, e2, e3, e4, e5⟩ := hst2.own.five
          have lA2 := hst2.own.lt
          clear hst2
          clear oX2 KX2
          go_wp2
          go_roundg (gk - 1)
          case rel =>
            refine ⟨j + 1, _, a3, c3, _, HG.out.2, by go_num, ?_, HS2.out⟩
            rw [HFU.out, HD.out, rowF, if_neg (fun z => HNB10.out ⟨by first | exact z.1 | trivial, z.2⟩), if_neg (fun z => by have := z.1; omega), HPE.out, List.append_assoc]
            rfl
          case measure => have := HG.out.1; omega
      · have i2 : (op == 10) = false := by simpa using h10
        have HNB10 : Hid (¬ (op = 10 ∧ 0 < j ∧ j + 1 < m)) := fun z => h10 z.1
        by_cases h1 : op = 1
        · subst h1
          clear h10
          have CL := HP.out w0 wr uo ut un ux uk _ HCU.out.1 HCU.out.2 HKU.out HBR.out
          go_wp2_with fail
          refine CL.mono ?_
          rintro en w1 ⟨kv', rfl, hkv, hb1⟩
          obtain ⟨a9, c9, rfl, h91, h92, _⟩ := id hkv
          obtain ⟨pk, hpk⟩ : ∃ pk, (prF N ⟨uo, ut, un, ux, uk⟩).ks = pk := ⟨_, rfl⟩
          have HPE : Hid (prF N ⟨uo, ut, un, ux, uk⟩ = ⟨uo, ut, un, ux, pk⟩) := by unfold Hid; rw [← hpk]; exact prF_eta N _
          rw [hpk] at hkv h91 ⊢
          obtain ⟨pl, hpl⟩ : ∃ pl, pk.length = pl := ⟨_, rfl⟩
          have HKV : Hid (KidsP (SC w0 wr) w1 (.slice a9 pl c9) pk) := by unfold Hid; rw [← hpl]; exact hkv
          rw [hpl] at h91 ⊢
          obtain ⟨hbN, oX9, o9⟩ := newB2 w1 #[.int .u8 uo, .int .i64 ut, .int .i64 un, .string ux, .slice a9 pl c9] #[.int .u8 uo, .int .i64 ut, .int .i64 un, .string ux, .slice a9 pl c9]
          have hb9 : Below wr.heap.size wr ((w1.alloc (.cells #[.int .u8 uo, .int .i64 ut, .int .i64 un, .string ux, .slice a9 pl c9] 24)).alloc (.cells #[.int .u8 uo, .int .i64 ut, .int .i64 un, .string ux, .slice a9 pl c9] 24)) := hb1.trans (hbN.mono hb1.size)
          have row9 := row_below HST.out.row hb9
          have oO1 := HST.out.out.below hb1
          obtain ⟨t0, t1, t2, t3, t4, t5⟩ := oO1.five
          have lO1 := oO1.lt
          have oA1 := HST.out.own.below hb1
          obtain ⟨e0, e1, e2, e3, e4, e5⟩ := oA1.five
          have lA1 := oA1.lt
          have HKX : Hid (KidsP (SC w0 wr) ((w1.alloc (.cells #[.int .u8 uo, .int .i64 ut, .int .i64 un, .string ux, .slice a9 pl c9] 24)).alloc (.cells #[.int .u8 uo, .int .i64 ut, .int .i64 un, .string ux, .slice a9 pl c9] 24)) (.slice a9 pl c9) pk) := HKV.out.on fun g o hS ho => ⟨hS, (hbN.block g (Array.getElem?_eq_some_iff.1 ho).1).trans ho⟩
          have HO9 : Hid _ := HST.out.out.below hb9
          have HX9 : Hid _ := oX9
          have HB9 : Hid _ := hb9
          have hs1 := hb1.size
          clear hb9 hbN hkv hpk hpl CL oX9 oO1 oA1
          go_upto_region 10 with (at_builtin; refine wpList_appF rfl (.tmp 48) (.tmp 50) rfl _ _ _ rfl row9 _ _ _ _ _ _ _ (w1.heap.size + 1) rfl o9 (by omega) ?_; intro a3 c3 w3 row3 hg3 hn3; obtain ⟨x0, x1, x2, x3, x4, x5⟩ := (grown_own HO9.out hg3 (HNB.out _ (by omega))).five)
          have hst2 : St w0 w #[.int .u8 1, .int .i64 ty, .int .i64 n, .string tx, .slice (some ⟨g2, q2, none⟩) m cap] 1 ty n tx (done ++ [⟨uo, ut, un, ux, pk⟩]) a3 (j + 1) c3 (xs ++ [.int .u8 uo, .int .i64 ut, .int .i64 un, .string ux, .slice a9 pl c9]) (w3.setCell ⟨w.heap.size + 1 + 1, 4, none⟩ (.slice a3 (j + 1) c3)) := HST.out.app HW0.out HB9.out (u := ⟨uo, ut, un, ux, pk⟩) HKX.out HIN.out row3 hg3 hn3
          have oX2 : Own (w3.setCell ⟨w.heap.size + 1 + 1, 4, none⟩ (.slice a3 (j + 1) c3)) w1.heap.size #[.int .u8 uo, .int .i64 ut, .int .i64 un, .string ux, .slice a9 pl c9] 24 := (grown_own HX9.out hg3 (fun e => by have := HST.out.own_lt e; omega)).other (by omega) _
          have KX2 : KidsP (SC w0 wr) (w3.setCell ⟨w.heap.size + 1 + 1, 4, none⟩ (.slice a3 (j + 1) c3)) (.slice a9 pl c9) pk := kids_grown HW0.out HST.out hg3 HKX.out
          clear x0 x1 x2 x3 x4 x5 row3 hg3 hn3 row9 o9 t0 t1 t2 t3 t4 t5 e0 e1 e2 e3 e4 e5 lO1 lA1
          generalize hWW : w3.setCell ⟨w.heap.size + 1 + 1, 4, none⟩ (.slice a3 (j + 1) c3) = W2 at *
          clear hWW
          have HS2 : Hid _ := hst2
          obtain ⟨e0, e1, e2, e3, e4, e5⟩ := hst2.own.five
          have lA2 := hst2.own.lt
          clear hst2
          obtain ⟨y0, y1, y2, y3, y4, y5⟩ := oX2.five
          have lX2 := oX2.lt
          have EN := ends_as (w0 := W2) (w := W2) (op := uo) (ty := ut) (n := un) (tx := ux) (ks := pk) ⟨HIN.out, KX2.toR, Below.refl _ _, by have h1 := prF_cnt N ⟨uo, ut, un, ux, uk⟩; rw [HPE.out] at h1; have h2 := HCU.out.2; omega⟩
          obtain ⟨te, hte⟩ : ∃ te, (tellF ⟨uo, ut, un, ux, pk⟩ true).e = te := ⟨_, rfl⟩
          have HTE : Hid ((tellF ⟨uo, ut, un, ux, pk⟩ true).e = te) := hte
          rw [hte] at EN
          clear oX2 KX2 hte
          go_wp2_with fail
          refine EN.mono ?_
          rintro en W3 ⟨rfl, hb3⟩
          have HS3 : Hid _ := HS2.out.below hb3
          clear EN e0 e1 e2 e3 e4 e5 y0 y1 y2 y3 y4 y5
          cases te
          · obtain ⟨r0, r1, r2, r3, r4, r5⟩ := HS3.out.res.five
            have lR := HS3.out.res.lt
            obtain ⟨p0, p1, p2, p3, p4, p5⟩ := HS3.out.out.five
            have lP := HS3.out.out.lt
            obtain ⟨z1, z2, _, z4⟩ := set5 HS3.out.res (.int .u8 1) (.int .i64 ty) (.int .i64 n) (.string tx) (.slice a3 (j + 1) c3)
            have KE : Hid _ := HS3.out.kids HW0.out z2
            have BE : Hid _ := z4 w.heap.size w (by omega) HS3.out.bel
            have OE : Hid _ := z1
            have HFD : Hid (rowF (prF N) 1 m 0 ks = done ++ [⟨uo, ut, un, ux, pk⟩]) := by
              unfold Hid
              rw [HFU.out, HD.out, rowF, if_neg (fun z => HNB10.out ⟨by first | exact z.1 | trivial, z.2⟩), HPE.out, if_pos ⟨rfl, HTE.out⟩]
            clear z1 z2 z4
            go_wp2
            refine bodyPost_cell1 (g := w.heap.size + 1) rfl rfl rfl OE.out Tryz.underlying24 rfl (by kernel_rfl) ?_
            rw [HFD.out]
            exact ⟨_, rfl, KE.out, BE.out⟩
          · go_wp2
            go_roundg (gk - 1)
            case rel =>
              refine ⟨j + 1, _, a3, c3, _, HG.out.2, by go_num, ?_, HS3.out⟩
              rw [HFU.out, HD.out, rowF, if_neg (fun z => HNB10.out ⟨by first | exact z.1 | trivial, z.2⟩), HPE.out, if_neg (fun z => by rw [HTE.out] at z; exact absurd z.2 (by decide)), List.append_assoc]
              rfl
            case measure => have := HG.out.1; omega
        · have i4 : (op == 1) = false := by simpa using h1
          have CL := HP.out w0 wr uo ut un ux uk _ HCU.out.1 HCU.out.2 HKU.out HBR.out
          go_wp2_with fail
          refine CL.mono ?_
          rintro en w1 ⟨kv', rfl, hkv, hb1⟩
          obtain ⟨a9, c9, rfl, h91, h92, _⟩ := id hkv
          obtain ⟨pk, hpk⟩ : ∃ pk, (prF N ⟨uo, ut, un, ux, uk⟩).ks = pk := ⟨_, rfl⟩
          have HPE : Hid (prF N ⟨uo, ut, un, ux, uk⟩ = ⟨uo, ut, un, ux, pk⟩) := by unfold Hid; rw [← hpk]; exact prF_eta N _
          rw [hpk] at hkv h91 ⊢
          obtain ⟨pl, hpl⟩ : ∃ pl, pk.length = pl := ⟨_, rfl⟩
          have HKV : Hid (KidsP (SC w0 wr) w1 (.slice a9 pl c9) pk) := by unfold Hid; rw [← hpl]; exact hkv
          rw [hpl] at h91 ⊢
          obtain ⟨hbN, oX9, o9⟩ := newB2 w1 #[.int .u8 uo, .int .i64 ut, .int .i64 un, .string ux, .slice a9 pl c9] #[.int .u8 uo, .int .i64 ut, .int .i64 un, .string ux, .slice a9 pl c9]
          have hb9 : Below wr.heap.size wr ((w1.alloc (.cells #[.int .u8 uo, .int .i64 ut, .int .i64 un, .string ux, .slice a9 pl c9] 24)).alloc (.cells #[.int .u8 uo, .int .i64 ut, .int .i64 un, .string ux, .slice a9 pl c9] 24)) := hb1.trans (hbN.mono hb1.size)
          have row9 := row_below HST.out.row hb9
          have oO1 := HST.out.out.below hb1
          obtain ⟨t0, t1, t2, t3, t4, t5⟩ := oO1.five
          have lO1 := oO1.lt
          have oA1 := HST.out.own.below hb1
          obtain ⟨e0, e1, e2, e3, e4, e5⟩ := oA1.five
          have lA1 := oA1.lt
          have HKX : Hid (KidsP (SC w0 wr) ((w1.alloc (.cells #[.int .u8 uo, .int .i64 ut, .int .i64 un, .string ux, .slice a9 pl c9] 24)).alloc (.cells #[.int .u8 uo, .int .i64 ut, .int .i64 un, .string ux, .slice a9 pl c9] 24)) (.slice a9 pl c9) pk) := HKV.out.on fun g o hS ho => ⟨hS, (hbN.block g (Array.getElem?_eq_some_iff.1 ho).1).trans ho⟩
          have HO9 : Hid _ := HST.out.out.below hb9
          have HX9 : Hid _ := oX9
          have HB9 : Hid _ := hb9
          have hs1 := hb1.size
          clear hb9 hbN hkv hpk hpl CL oX9 oO1 oA1
          go_upto_region 10 with (at_builtin; refine wpList_appF rfl (.tmp 48) (.tmp 50) rfl _ _ _ rfl row9 _ _ _ _ _ _ _ (w1.heap.size + 1) rfl o9 (by omega) ?_; intro a3 c3 w3 row3 hg3 hn3; obtain ⟨x0, x1, x2, x3, x4, x5⟩ := (grown_own HO9.out hg3 (HNB.out _ (by omega))).five)
          have hst2 : St w0 w #[.int .u8 op, .int .i64 ty, .int .i64 n, .string tx, .slice (some ⟨g2, q2, none⟩) m cap] op ty n tx (done ++ [⟨uo, ut, un, ux, pk⟩]) a3 (j + 1) c3 (xs ++ [.int .u8 uo, .int .i64 ut, .int .i64 un, .string ux, .slice a9 pl c9]) (w3.setCell ⟨w.heap.size + 1 + 1, 4, none⟩ (.slice a3 (j + 1) c3)) := HST.out.app HW0.out HB9.out (u := ⟨uo, ut, un, ux, pk⟩) HKX.out HIN.out row3 hg3 hn3
          have oX2 : Own (w3.setCell ⟨w.heap.size + 1 + 1, 4, none⟩ (.slice a3 (j + 1) c3)) w1.heap.size #[.int .u8 uo, .int .i64 ut, .int .i64 un, .string ux, .slice a9 pl c9] 24 := (grown_own HX9.out hg3 (fun e => by have := HST.out.own_lt e; omega)).other (by omega) _
          have KX2 : KidsP (SC w0 wr) (w3.setCell ⟨w.heap.size + 1 + 1, 4, none⟩ (.slice a3 (j + 1) c3)) (.slice a9 pl c9) pk := kids_grown HW0.out HST.out hg3 HKX.out
          clear x0 x1 x2 x3 x4 x5 row3 hg3 hn3 row9 o9 t0 t1 t2 t3 t4 t5 e0 e1 e2 e3 e4 e5 lO1 lA1
          generalize hWW : w3.setCell ⟨w.heap.size + 1 + 1, 4, none⟩ (.slice a3 (j + 1) c3) = W2 at *
          clear hWW
          have HS2 : Hid _ := hst2
          obtain ⟨e0, e1, e2, e3, e4, e5⟩ := hst2.own.five
          have lA2 := hst2.own.lt
          clear hst2
          clear oX2 KX2
          go_wp2
          go_roundg (gk - 1)
          case rel =>
            refine ⟨j + 1, _, a3, c3, _, HG.out.2, by go_num, ?_, HS2.out⟩
            rw [HFU.out, HD.out, rowF, if_neg (fun z => HNB10.out ⟨by first | exact z.1 | trivial, z.2⟩), if_neg (fun z => by have := z.1; omega), HPE.out, List.append_assoc]
            rfl
          case measure => have := HG.out.1; omega
    · have i1 : ¬ ((j : Int) < (m : Int)) := by omega
      have hjm : j = m := by omega
      subst hjm
      obtain ⟨r0, r1, r2, r3, r4, r5⟩ := HST.out.res.five
      have lR := HST.out.res.lt
      obtain ⟨z1, z2, _, z4⟩ := set5 HST.out.res (.int .u8 op) (.int .i64 ty) (.int .i64 n) (.string tx) (.slice al j cl)
      have hfd : rowF (prF N) op j 0 ks = done := by rw [HFU.out, List.drop_eq_nil_of_le (by rw [HM.out]; exact Nat.le_refl _), rowF, List.append_nil]
      have KE : Hid _ := HST.out.kids hw0 z2
      have BE : Hid _ := z4 w.heap.size w (by omega) HST.out.bel
      have OE : Hid _ := z1
      clear z1 z2 z4
      go_wp2
      refine bodyPost_cell1 (g := w.heap.size + 1) rfl rfl rfl OE.out Tryz.underlying24 rfl (by kernel_rfl) ?_
      exact ⟨_, rfl, KE.out, BE.out⟩
theorem pr_ok : ∀ N, PrOk N
  | 0 => fun w0 w op ty n tx ks kv h => by omega
  | N + 1 => pruned_step (pr_ok N)
end Go.Proofs.YtepadfcjjcionaaGreatDoor
