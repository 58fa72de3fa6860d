/-
  CONTRACT of the statement's own copy of a case, its last part pruned.
-/
import Derived.Test.YtepadfcjjcionaaGreatDoorPw
import Derived.Test.YtepadfcjjcionaaGreatDoorTc
namespace Go.Proofs.YtepadfcjjcionaaGreatDoor
open Go.RowKit
set_option linter.unusedVariables false

theorem newB2 (X : World) (c1 c2 : Array Value) : Below X.heap.size X ((X.alloc (.cells c1 24)).alloc (.cells c2 24)) ∧ Own ((X.alloc (.cells c1 24)).alloc (.cells c2 24)) X.heap.size c1 24 ∧ Own ((X.alloc (.cells c1 24)).alloc (.cells c2 24)) (X.heap.size + 1) c2 24 := by
  have s1 : (X.alloc (.cells c1 24)).heap.size = X.heap.size + 1 := Array.size_push ..
  have h := Own.new (X.alloc (.cells c1 24)) c2 24
  rw [s1] at h
  exact ⟨((Below.refl _ _).alloc (Nat.le_refl _) _).alloc (by omega) _, (Own.new X c1 24).alloc _, h⟩
theorem prF_eta (N : Nat) (t : Tm) : prF N t = ⟨t.op, t.ty, t.n, t.tx, (prF N t).ks⟩ := by
  obtain ⟨o, a, n, x, k⟩ := t
  cases N <;> rfl
def PrOk (N : Nat) : Prop := ∀ (w0 w : World) (op ty n : Int) (tx : ByteArray) (ks : List Tm) (kv : Value), cnt ⟨op, ty, n, tx, ks⟩ < N → cnt ⟨op, ty, n, tx, ks⟩ ≤ 1000 → KidsR w0 kv ks → Below w0.heap.size w0 w →
  Calls Tryz.prog 8 #[.agg #[.int .u8 op, .int .i64 ty, .int .i64 n, .string tx, kv]] w fun en w' => ∃ kv', en = .returned (.agg #[.int .u8 op, .int .i64 ty, .int .i64 n, .string tx, kv']) ∧ KidsP (SC w0 w) w' kv' (prF N ⟨op, ty, n, tx, ks⟩).ks ∧ Below w.heap.size w w'
structure BRel (w0 w : World) (cells : Array Value) (op ty n : Int) (tx : ByteArray) (full : List Tm) (tl : Nat → List Tm) (m g : Nat) (iv : Value) (wr : World) : Prop where
  ex : ∃ (j : Nat) (done : List Tm) (ao : Option Addr) (cap : Nat) (xs : List Value), j + g = m ∧ iv = .int .i64 (j : Int) ∧ full = done ++ tl j ∧ St w0 w cells op ty n tx done ao j cap xs wr
set_option maxRecDepth 100000 in
set_option maxHeartbeats 4000000 in
theorem branch_as {N : Nat} (hp : PrOk N) {w0 w : World} {op ty n : Int} {tx : ByteArray} {ks : List Tm} {kv : Value} (hc : cnt.cntL ks < N) (hc2 : cnt.cntL ks ≤ 999) (hl : ks.length ≤ 1000) (hk : KidsR w0 kv ks) (hb : Below w0.heap.size w0 w) :
    Calls Tryz.prog 12 #[.agg #[.int .u8 op, .int .i64 ty, .int .i64 n, .string tx, kv]] w fun en w' => ∃ kv', en = .returned (.agg #[.int .u8 op, .int .i64 ty, .int .i64 n, .string tx, kv']) ∧ KidsP (SC w0 w) w' kv' (brF (prF N) ks.length 0 ks) ∧ Below w.heap.size w w' := by
  obtain ⟨ao, cap, rfl, hl1, hl2, _⟩ := id hk
  obtain ⟨m, hm⟩ : ∃ m, ks.length = m := ⟨_, rfl⟩
  have HM : Hid (ks.length = m) := hm
  have HP : Hid (PrOk N) := hp
  have HK : Hid (KidsR w0 (.slice ao m cap) ks) := by rw [← hm]; exact hk
  have HB : Hid (Below w0.heap.size w0 w) := hb
  have HC : Hid (cnt.cntL ks < N ∧ cnt.cntL ks ≤ 999) := ⟨hc, hc2⟩
  rw [hm] at hl1 hl ⊢
  clear hk hm hb hc hc2 hp
  go_enter Tryz.func12, Tryz.ntmps12
  go_wp2_with fail
  go_loopg [4] m (fun g iv wr => BRel w0 w #[.int .u8 op, .int .i64 ty, .int .i64 n, .string tx, .slice ao m cap] op ty n tx (brF (prF N) m 0 ks) (fun j => brF (prF N) m j (ks.drop j)) m g iv wr)
  case atStart => exact ⟨0, [], none, 0, [], by omega, rfl, rfl, st_start _ _ _ _ _ _ _⟩
  case round =>
    obtain ⟨j, done, al, cl, xs, hj, rfl, hfull, hst⟩ := hrel
    have hsz := hst.size
    have hw0 : w0.heap.size ≤ w.heap.size := HB.out.size
    obtain ⟨a0, a1, a2, a3, a4, _⟩ := hst.own.five
    obtain ⟨b0, b1, b2, b3, b4, b5⟩ := hst.out.five
    have HST : Hid (St w0 w #[.int .u8 op, .int .i64 ty, .int .i64 n, .string tx, .slice ao m cap] op ty n tx done al j cl xs wr) := hst
    have HFU : Hid (brF (prF N) m 0 ks = done ++ brF (prF N) m j (ks.drop j)) := hfull
    have lA := hst.own.lt
    have lO := hst.out.lt
    clear hst hfull
    by_cases hlt : j < m
    · have i1 : (j : Int) < (m : Int) := by omega
      obtain ⟨u, hu⟩ : ∃ u, ks[j]? = some u := ⟨ks[j]'(by rw [HM.out]; exact hlt), List.getElem?_eq_getElem _⟩
      have HD : Hid (ks.drop j = u :: ks.drop (j + 1)) := by
        unfold Hid
        obtain ⟨hj', hu'⟩ := List.getElem?_eq_some_iff.1 hu
        rw [List.drop_eq_getElem_cons hj', hu']
      have hcu := cnt_get hu
      obtain ⟨g2, q2, aj, cj, rfl, hg2, hin, hW⟩ := kids_cells HK.out j u hu
      have hbr : Below w0.heap.size w0 wr := HB.out.trans (HST.out.bel.mono HB.out.size)
      obtain ⟨f0, f1, f2, f3, f4, _⟩ := hW wr (fun k hk => hbr.block k hk)
      obtain ⟨_, _, _, _, _, hku⟩ := hW w0 (fun _ _ => rfl)
      have hg2r : g2 < wr.heap.size := Nat.lt_of_lt_of_le hg2 hbr.size
      have HG : Hid (1 ≤ gk ∧ j + 1 + (gk - 1) = m) := by unfold Hid; omega
      obtain ⟨uo, ut, un, ux, uk⟩ := u
      simp only at f0 f1 f2 f3 f4 hku hin
      obtain ⟨um, hum⟩ : ∃ um, uk.length = um := ⟨_, rfl⟩
      have HKU : Hid (KidsR w0 (.slice aj um cj) uk) := by unfold Hid; rw [← hum]; exact hku
      rw [hum] at f4
      have HIN : Hid (inr un) := hin
      have HCU : Hid (cnt ⟨uo, ut, un, ux, uk⟩ < N ∧ cnt ⟨uo, ut, un, ux, uk⟩ ≤ 1000) := by unfold Hid; have := HC.out; omega
      have hum2 : um ≤ cj ∧ cj ≤ 9223372036854775807 := by
        obtain ⟨aq, cq, e, z1, z2, _⟩ := HKU.out
        cases e
        exact ⟨by omega, z2⟩
      have HBR : Hid (Below w0.heap.size w0 wr) := hbr
      clear hW hku hin hu hcu hum hbr
      have HW0 : Hid (w0.heap.size ≤ w.heap.size) := hw0
      have nb : ∀ b, b < w.heap.size + 3 → (Value.slice al j cl).ownBlock ≠ some b := fun b hb e => by have := HST.out.bnd b e; omega
      have HNB : Hid (∀ b, b < w.heap.size + 3 → (Value.slice al j cl).ownBlock ≠ some b) := nb
      clear nb
      by_cases hlast : j + 1 = m
      · have i2 : decide ((j : Int) = (m : Int) - 1) = true := by rw [decide_eq_true_eq]; omega
        have i2' : ((j : Int) == (m : Int) - 1) = true := by rw [beq_iff_eq]; omega
        have HL : Hid (j + 1 = m) := hlast
        clear hlast
        have CL := HP.out w0 (wr.alloc (.cells #[.int .u8 uo, .int .i64 ut, .int .i64 un, .string ux, .slice aj um cj] 24)) uo ut un ux uk _ HCU.out.1 HCU.out.2 HKU.out (HBR.out.alloc HBR.out.size _)
        have oX := Own.new wr #[.int .u8 uo, .int .i64 ut, .int .i64 un, .string ux, .slice aj um cj] 24
        have hbX : Below wr.heap.size wr (wr.alloc (.cells #[.int .u8 uo, .int .i64 ut, .int .i64 un, .string ux, .slice aj um cj] 24)) := (Below.refl _ _).alloc (Nat.le_refl _) _
        have sX : (wr.alloc (.cells #[.int .u8 uo, .int .i64 ut, .int .i64 un, .string ux, .slice aj um cj] 24)).heap.size = wr.heap.size + 1 := Array.size_push ..
        go_wp2_with fail
        refine CL.mono ?_
        rintro en w1 ⟨kv', rfl, hkv, hb1⟩
        obtain ⟨a9, c9, rfl, h91, h92, _⟩ := id hkv
        obtain ⟨pl, hpl⟩ : ∃ pl, (prF N ⟨uo, ut, un, ux, uk⟩).ks.length = pl := ⟨_, rfl⟩
        have HKV : Hid (KidsP (SC w0 (wr.alloc (.cells #[.int .u8 uo, .int .i64 ut, .int .i64 un, .string ux, .slice aj um cj] 24))) w1 (.slice a9 pl c9) (prF N ⟨uo, ut, un, ux, uk⟩).ks) := by unfold Hid; rw [← hpl]; exact hkv
        rw [hpl] at h91 ⊢
        have oX1 := oX.below hb1
        obtain ⟨y0, y1, y2, y3, y4, y5⟩ := oX1.five
        have lX := oX1.lt
        obtain ⟨z1, z2, z3, z4⟩ := set5 oX1 (.int .u8 uo) (.int .i64 ut) (.int .i64 un) (.string ux) (.slice a9 pl c9)
        have hbw1 : Below wr.heap.size wr w1 := hbX.trans (hb1.mono hbX.size)
        have hbW2 := z4 wr.heap.size wr (Nat.le_refl _) hbw1
        clear hkv hpl z4 CL oX1
        go_upto_region 9 with fail
        generalize hW2 : ((((w1.setCell ⟨wr.heap.size, 0, none⟩ (.int .u8 uo)).setCell ⟨wr.heap.size, 1, none⟩ (.int .i64 ut)).setCell ⟨wr.heap.size, 2, none⟩ (.int .i64 un)).setCell ⟨wr.heap.size, 3, none⟩ (.string ux)).setCell ⟨wr.heap.size, 4, none⟩ (.slice a9 pl c9) = W2 at *
        have hs1 := hb1.size
        rw [sX] at hs1
        clear hW2 y0 y1 y2 y3 y4 y5 lX
        obtain ⟨y0, y1, y2, y3, y4, y5⟩ := z1.five
        have lX := z1.lt
        have oO2 := HST.out.out.below hbW2
        obtain ⟨t0, t1, t2, t3, t4, t5⟩ := oO2.five
        have lO2 := oO2.lt
        have hb9 : Below wr.heap.size wr (W2.alloc (.cells #[.int .u8 uo, .int .i64 ut, .int .i64 un, .string ux, .slice a9 pl c9] 24)) := hbW2.alloc hbW2.size _
        have o9 := Own.new W2 #[.int .u8 uo, .int .i64 ut, .int .i64 un, .string ux, .slice a9 pl c9] 24
        have row9 := row_below HST.out.row hb9
        have KX : Hid (KidsP (SC w0 wr) (W2.alloc (.cells #[.int .u8 uo, .int .i64 ut, .int .i64 un, .string ux, .slice a9 pl c9] 24)) (.slice a9 pl c9) (prF N ⟨uo, ut, un, ux, uk⟩).ks) :=
          kids_call hbX.size HKV.out fun g hg hlt => (Below.heap_alloc W2 _ g (by omega)).trans (z2 g (by rw [sX] at hg; omega))
        have HO9 : Hid _ := oO2.alloc (.cells #[.int .u8 uo, .int .i64 ut, .int .i64 un, .string ux, .slice a9 pl c9] 24)
        have HB9 : Hid _ := hb9
        have hs9 : wr.heap.size + 1 ≤ W2.heap.size := by omega
        clear hb9 z2 z3 oO2 hbw1 hb1 hbX hbW2
        go_wp2_with (at_builtin; refine wpList_appF rfl (.tmp 29) (.tmp 31) rfl _ _ _ rfl row9 _ _ _ _ _ _ _ W2.heap.size rfl o9 (by omega) ?_; intro a3 c3 w3 row3 hg3 hn3; obtain ⟨x0, x1, x2, x3, x4, x5⟩ := (grown_own HO9.out hg3 (HNB.out _ (by omega))).five)
        go_roundg (gk - 1)
        case rel =>
          have PE : prF N ⟨uo, ut, un, ux, uk⟩ = ⟨uo, ut, un, ux, (prF N ⟨uo, ut, un, ux, uk⟩).ks⟩ := prF_eta N _
          have Q := HST.out.app HW0.out HB9.out (u := ⟨uo, ut, un, ux, (prF N ⟨uo, ut, un, ux, uk⟩).ks⟩) KX.out HIN.out row3 hg3 hn3
          rw [← PE] at Q
          refine ⟨j + 1, done ++ [prF N ⟨uo, ut, un, ux, uk⟩], a3, c3, _, HG.out.2, by go_num, ?_, Q⟩
          rw [HFU.out, HD.out, brF, if_pos HL.out, List.append_assoc]
          rfl
        case measure => have := HG.out.1; omega
      · have i2 : ¬ ((j : Int) = (m : Int) - 1) := by omega
        obtain ⟨hb9, _, o9⟩ := newB2 wr #[.int .u8 uo, .int .i64 ut, .int .i64 un, .string ux, .slice aj um cj] #[.int .u8 uo, .int .i64 ut, .int .i64 un, .string ux, .slice aj um cj]
        have row9 := row_below HST.out.row hb9
        have oO9 := HST.out.out.below hb9
        have KX : Hid (KidsP (SC w0 wr) ((wr.alloc (.cells #[.int .u8 uo, .int .i64 ut, .int .i64 un, .string ux, .slice aj um cj] 24)).alloc (.cells #[.int .u8 uo, .int .i64 ut, .int .i64 un, .string ux, .slice aj um cj] 24)) (.slice aj um cj) uk) := kids_arg HKU.out (HBR.out.trans (hb9.mono HBR.out.size))
        have HB9 : Hid _ := hb9
        have HO9 : Hid _ := oO9
        clear hb9 oO9
        go_wp2_with (at_builtin; refine wpList_appF rfl (.tmp 29) (.tmp 31) rfl _ _ _ rfl row9 _ _ _ _ _ _ _ (wr.heap.size + 1) rfl o9 (by omega) ?_; intro a3 c3 w3 row3 hg3 hn3; obtain ⟨x0, x1, x2, x3, x4, x5⟩ := (grown_own HO9.out hg3 (HNB.out _ (by omega))).five)
        go_roundg (gk - 1)
        case rel =>
          refine ⟨j + 1, done ++ [⟨uo, ut, un, ux, uk⟩], a3, c3, _, HG.out.2, by go_num, ?_, HST.out.app HW0.out HB9.out (u := ⟨uo, ut, un, ux, uk⟩) KX.out HIN.out row3 hg3 hn3⟩
          rw [HFU.out, HD.out, brF, if_neg hlast, List.append_assoc]
          rfl
        case measure => have := HG.out.1; omega
    · have i1 : ¬ ((j : Int) < (m : Int)) := by omega
      have hjm : j = m := by omega
      subst hjm
      obtain ⟨r0, r1, r2, r3, r4, r5⟩ := HST.out.res.five
      have lR := HST.out.res.lt
      obtain ⟨z1, z2, _, z4⟩ := set5 HST.out.res (.int .u8 op) (.int .i64 ty) (.int .i64 n) (.string tx) (.slice al j cl)
      have hfd : brF (prF N) j 0 ks = done := by rw [HFU.out, List.drop_eq_nil_of_le (by rw [HM.out]; exact Nat.le_refl _), brF, List.append_nil]
      have KE : Hid _ := HST.out.kids hw0 z2
      have BE : Hid _ := z4 w.heap.size w (by omega) HST.out.bel
      have OE : Hid _ := z1
      clear z1 z2 z4
      go_wp2
      refine bodyPost_cell1 (g := w.heap.size + 1) rfl rfl rfl OE.out Tryz.underlying24 rfl (by kernel_rfl) ?_
      exact ⟨_, rfl, KE.out, BE.out⟩
end Go.Proofs.YtepadfcjjcionaaGreatDoor
