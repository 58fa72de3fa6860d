/-
  CONTRACT of the law about what is not come to.
-/
import Derived.Test.YtepadfcjjcionaaGreatDoorPd
import Derived.Test.YtepadfcjjcionaaGreatDoorDp
import Derived.Test.YtepadfcjjcionaaGreatDoorLd
import Derived.Test.YtepadfcjjcionaaGreatDoorRg
namespace Go.Proofs.YtepadfcjjcionaaGreatDoor
open Go.RowKit
set_option linter.unusedVariables false

set_option maxRecDepth 100000 in
set_option maxHeartbeats 1000000 in
/-- The law about what is not come to. -/
theorem pruned_law {w : World} (hF : FiveAt w) {op ty n : Int} {tx : ByteArray} {ks : List Tm} {kv : Value} (hn : inr n) (hk : KidsR w kv ks) :
    Calls Tryz.prog 3 #[.agg #[.int .u8 op, .int .i64 ty, .int .i64 n, .string tx, kv]] w fun en w' => en = .returned (.bool true) ∧ Below w.heap.size w w' := by
  obtain ⟨ao, cap, rfl, hl1, hl2, _⟩ := id hk
  obtain ⟨m, hm⟩ : ∃ m, ks.length = m := ⟨_, rfl⟩
  have HK : Hid (KidsR w (.slice ao m cap) ks) := by rw [← hm]; exact hk
  have HF : Hid (FiveAt w) := hF
  rw [hm] at hl1 ⊢
  clear hk hF hm
  have oA0 := Own.new w #[.int .u8 op, .int .i64 ty, .int .i64 n, .string tx, .slice ao m cap] 24
  have hb0 : Below w.heap.size w (w.alloc (.cells #[.int .u8 op, .int .i64 ty, .int .i64 n, .string tx, .slice ao m cap] 24)) := (Below.refl _ _).alloc (Nat.le_refl _) _
  generalize hX0 : w.alloc (.cells #[.int .u8 op, .int .i64 ty, .int .i64 n, .string tx, .slice ao m cap] 24) = X0 at *
  obtain ⟨d0, d1, d2, d3, d4, _⟩ := oA0.five
  have la := oA0.lt
  have TC := terms300_as _ ⟨op, ty, n, tx, ks⟩ (Nat.le_refl _) w X0 op ty n tx _ HK.out hb0
  obtain ⟨c1, hc1⟩ : ∃ c, min (cnt ⟨op, ty, n, tx, ks⟩) 301 = c := ⟨_, rfl⟩
  rw [hc1] at TC
  have hc1b : c1 ≤ 301 := by omega
  go_enter Tryz.func3, Tryz.ntmps3
  go_wp2_with fail
  refine TC.mono ?_
  rintro en w1 ⟨rfl, hb1'⟩
  have oA1 := oA0.below hb1'
  have hb1 : Below w.heap.size w w1 := hb0.trans (hb1'.mono hb0.size)
  clear TC d0 d1 d2 d3 d4 oA0 hb0 hb1' hX0 la
  obtain ⟨d0, d1, d2, d3, d4, _⟩ := oA1.five
  have la := oA1.lt
  by_cases h1 : c1 ≤ 300
  · have i1 : ¬ ((c1 : Int) > 300) := by omega
    have HCC : Hid (cnt ⟨op, ty, n, tx, ks⟩ ≤ 300) := by unfold Hid; omega
    have DC := deep_as 1000000 (Nat.le_refl _) ⟨op, ty, n, tx, ks⟩ (by have := HCC.out; omega) w w1 op ty n tx _ HK.out hb1
    go_wp2_with fail
    refine DC.mono ?_
    rintro en w2 ⟨dd, rfl, hdd, hb2'⟩
    have oA2 := oA1.below hb2'
    have hb2 : Below w.heap.size w w2 := hb1.trans (hb2'.mono hb1.size)
    have hdb : dd ≤ 300 := Nat.le_trans hdd HCC.out
    clear DC d0 d1 d2 d3 d4 oA1 hb1 hb2' la hdd
    obtain ⟨d0, d1, d2, d3, d4, _⟩ := oA2.five
    have la := oA2.lt
    by_cases h2 : dd ≤ 30
    · have i2 : ¬ ((dd : Int) > 30) := by omega
      obtain ⟨N, hN⟩ : ∃ N, cnt ⟨op, ty, n, tx, ks⟩ + 1 = N := ⟨_, rfl⟩
      have PC := pr_ok N w w2 op ty n tx ks _ (by omega) (by have := HCC.out; omega) HK.out hb2
      have PL := pr_like N N (Nat.le_refl _) ⟨op, ty, n, tx, ks⟩ (by omega) true
      have PN := prF_cnt N ⟨op, ty, n, tx, ks⟩
      rw [prF_eta N ⟨op, ty, n, tx, ks⟩] at PL PN
      simp only at PL PN
      obtain ⟨pk, hpk⟩ : ∃ pk, (prF N ⟨op, ty, n, tx, ks⟩).ks = pk := ⟨_, rfl⟩
      rw [hpk] at PC PL PN
      have HPL : Hid (Lk (tellF ⟨op, ty, n, tx, ks⟩ true) (tellF ⟨op, ty, n, tx, pk⟩ true)) := PL
      have HPN : Hid (cnt ⟨op, ty, n, tx, pk⟩ ≤ 300) := Nat.le_trans PN HCC.out
      clear PL PN hpk hN
      go_wp2_with fail
      refine PC.mono ?_
      rintro en w3 ⟨kv', rfl, hkv, hb3'⟩
      obtain ⟨a9, c9, rfl, h91, h92, _⟩ := id hkv
      obtain ⟨pl, hpl⟩ : ∃ pl, pk.length = pl := ⟨_, rfl⟩
      have HKV : Hid (KidsR w3 (.slice a9 pl c9) pk) := by unfold Hid; rw [← hpl]; exact hkv.toR
      rw [hpl] at h91 ⊢
      have oA3' := oA2.below hb3'
      have hb3 : Below w.heap.size w w3 := hb2.trans (hb3'.mono hb2.size)
      have oX3 := Own.new w3 #[.int .u8 op, .int .i64 ty, .int .i64 n, .string tx, .slice a9 pl c9] 24
      have oA3 := oA3'.alloc (.cells #[.int .u8 op, .int .i64 ty, .int .i64 n, .string tx, .slice a9 pl c9] 24)
      have hbX : Below w3.heap.size w3 (w3.alloc (.cells #[.int .u8 op, .int .i64 ty, .int .i64 n, .string tx, .slice a9 pl c9] 24)) := (Below.refl _ _).alloc (Nat.le_refl _) _
      have hb4 : Below w.heap.size w (w3.alloc (.cells #[.int .u8 op, .int .i64 ty, .int .i64 n, .string tx, .slice a9 pl c9] 24)) := hb3.trans (hbX.mono hb3.size)
      clear PC hkv hpl d0 d1 d2 d3 d4 oA2 hb2 hb3' la
      go_upto_region 4 with fail
      generalize hX3 : w3.alloc (.cells #[.int .u8 op, .int .i64 ty, .int .i64 n, .string tx, .slice a9 pl c9] 24) = X3 at *
      clear hX3
      have KA : KidsR X3 (.slice ao m cap) ks := HK.out.below hb4
      have KX : KidsR X3 (.slice a9 pl c9) pk := HKV.out.below hbX
      have ASA : ∀ X, Below X3.heap.size X3 X → AskIn X3 X ⟨op, ty, n, tx, ks⟩ (.slice ao m cap) := fun X h => ⟨hn, KA, h, by have := HCC.out; omega⟩
      have ASX : ∀ X, Below X3.heap.size X3 X → AskIn X3 X ⟨op, ty, n, tx, pk⟩ (.slice a9 pl c9) := fun X h => ⟨hn, KX, h, by have := HPN.out; omega⟩
      have bA := out_le (cnt ⟨op, ty, n, tx, ks⟩ + 1) ⟨op, ty, n, tx, ks⟩ true
      have wA := wt_le ⟨op, ty, n, tx, ks⟩
      have RA := fun X h => reached_as (ASA X h)
      have RX := fun X h => reached_as (ASX X h)
      have EA := fun X h => ends_as (ASA X h)
      have EX := fun X h => ends_as (ASX X h)
      have LK := HPL.out
      change (tellF ⟨op, ty, n, tx, ks⟩ true).y + (tellF ⟨op, ty, n, tx, ks⟩ true).z ≤ _ at bA
      generalize tellF ⟨op, ty, n, tx, ks⟩ true = ra at *
      generalize tellF ⟨op, ty, n, tx, pk⟩ true = rx at *
      have j1 : ra.y + ra.z ≤ 3000 := by have := HCC.out; omega
      clear bA wA ASA ASX KA KX HPL
      obtain ⟨rae, raw, ray, raz⟩ := ra
      obtain ⟨rxe, rxw, rxy, rxz⟩ := rx
      obtain ⟨q1, q2, q3, q4⟩ := LK
      simp only at *
      subst q1 q3
      have iz : (rxz : Int) ≤ (raz : Int) := by omega
      have WK : ∀ X, Below X3.heap.size X3 X → Calls Tryz.prog 11 #[] X fun en w' => en = .returned (.bool true) ∧ Below X.heap.size X w' := fun X h => works_any ((HF.out.below HF.out.lt hb4).below (Nat.lt_of_lt_of_le HF.out.lt hb4.size) h)
      have FIN : Hid (∀ X, Below X3.heap.size X3 X → Below w.heap.size w X) := fun X h => hb4.trans (h.mono hb4.size)
      have B3 : Below X3.heap.size X3 X3 := Below.refl _ _
      have k1 : (rxy : Int) ≤ 3000 := by omega
      have k2 : (raz : Int) ≤ 3000 := by omega
      have k3 : (rxz : Int) ≤ 3000 := by omega
      have k5 : (0 : Int) ≤ rxy := by omega
      have k6 : (0 : Int) ≤ raz := by omega
      have k7 : (0 : Int) ≤ rxz := by omega
      clear hb4 hbX hb3 oA3' q2 q4
      obtain ⟨a30, a31, a32, a33, a34, _⟩ := oA3.five
      have lA3 := oA3.lt
      obtain ⟨b30, b31, b32, b33, b34, _⟩ := oX3.five
      have lB3 := oX3.lt
      go_wp2_with fail
      refine (RA X3 B3).mono ?_
      rintro en X4 ⟨rfl, hq4⟩
      have oA4 := oA3.below hq4
      have oX4 := oX3.below hq4
      have B4 : Below X3.heap.size X3 X4 := Below.trans B3 (hq4.mono (Below.size B3))
      clear a30 a31 a32 a33 a34 b30 b31 b32 b33 b34 lA3 lB3 oA3 oX3 hq4 RA
      obtain ⟨a40, a41, a42, a43, a44, _⟩ := oA4.five
      have lA4 := oA4.lt
      obtain ⟨b40, b41, b42, b43, b44, _⟩ := oX4.five
      have lB4 := oX4.lt
      go_wp2_with fail
      refine (RX X4 B4).mono ?_
      rintro en X6 ⟨rfl, hq6⟩
      have oA6 := oA4.below hq6
      have oX6 := oX4.below hq6
      have B6 : Below X3.heap.size X3 X6 := Below.trans B4 (hq6.mono (Below.size B4))
      clear a40 a41 a42 a43 a44 b40 b41 b42 b43 b44 lA4 lB4 oA4 oX4 hq6 RX
      go_wp2_with fail
      · skip
        refine wp_region_noPanic ?_
        refine wp_region_held_drew (S := fun w' => Below X6.heap.size X6 w') (by kernel_rfl) (Below.refl _ _).drew (fun hS0 => ?_)
        refine take_lit (i := 0) (v := ?_) rfl (by kernel_rfl) (by kernel_rfl) (by kernel_rfl) (fun _ _ _ h => h) (Or.inl ⟨by rfl, ?_⟩) hS0 ?_
        rotate_left 1
        · (intro w' hSw; obtain ⟨s0, s1, s2, s3, s4, _⟩ := (oA6.below hSw).five; go_simp <;> with_reducible rfl)
        try simp only [Act.put, List.setIfInBounds_toArray, List.set_cons_zero, List.set_cons_succ]
        refine take_lit (i := 2) (v := ?_) rfl (by kernel_rfl) (by kernel_rfl) (by kernel_rfl) (fun _ _ _ h => h) (Or.inl ⟨by rfl, ?_⟩) hS0 ?_
        rotate_left 1
        · (intro w' hSw; obtain ⟨s0, s1, s2, s3, s4, _⟩ := (oX6.below hSw).five; go_simp <;> with_reducible rfl)
        try simp only [Act.put, List.setIfInBounds_toArray, List.set_cons_zero, List.set_cons_succ]
        refine wpAnyH_ready (rs := [1]) (by kernel_rfl) (by simp) ?_
        refine ready_lit rfl (fun K hK => ?_)
        go_simp
        refine (EA X6.drew (B6.trans (hS0.mono B6.size))).mono ?_
        rintro en Z1 ⟨rfl, hz1⟩
        have hS1 : Below X6.heap.size X6 Z1 := hS0.trans (hz1.mono hS0.size)
        go_wp2_with fail
        refine hK.out _ _ hS1 (fun hHeld => ?_)
        clear hK K hHeld
        try simp only [Act.put, List.setIfInBounds_toArray, List.set_cons_zero, List.set_cons_succ]
        refine wpAnyH_ready (rs := [3]) (by kernel_rfl) (by simp) ?_
        refine ready_lit rfl (fun K hK => ?_)
        go_simp
        refine (EX Z1 (B6.trans (hS1.mono B6.size))).mono ?_
        rintro en Z2 ⟨rfl, hz2⟩
        have hS2 : Below X6.heap.size X6 Z2 := hS1.trans (hz2.mono hS1.size)
        go_wp2_with fail
        refine hK.out _ _ hS2 (fun hHeld => ?_)
        clear hK K hHeld
        try simp only [Act.put, List.setIfInBounds_toArray, List.set_cons_zero, List.set_cons_succ]
        refine take_lit (i := 4) (v := ?_) rfl (by kernel_rfl) (by kernel_rfl) (by kernel_rfl) (fun _ _ _ h => h) (Or.inl ⟨by rfl, ?_⟩) hS2 ?_
        rotate_left 1
        · (intro w' hSw; go_simp <;> with_reducible rfl)
        try simp only [Act.put, List.setIfInBounds_toArray, List.set_cons_zero, List.set_cons_succ]
        refine take_lit (i := 5) (v := ?_) rfl (by kernel_rfl) (by kernel_rfl) (by kernel_rfl) (fun _ _ _ h => h) (Or.inl ⟨by rfl, ?_⟩) hS2 ?_
        rotate_left 1
        · (intro w' hSw; go_simp <;> with_reducible rfl)
        try simp only [Act.put, List.setIfInBounds_toArray, List.set_cons_zero, List.set_cons_succ]
        refine take_lit (i := 6) (v := ?_) rfl (by kernel_rfl) (by kernel_rfl) (by kernel_rfl) (fun _ _ _ h => h) (Or.inl ⟨by rfl, ?_⟩) hS2 ?_
        rotate_left 1
        · (intro w' hSw; go_simp <;> with_reducible rfl)
        try simp only [Act.put, List.setIfInBounds_toArray, List.set_cons_zero, List.set_cons_succ]
        refine take_lit (i := 7) (v := ?_) rfl (by kernel_rfl) (by kernel_rfl) (by kernel_rfl) (fun _ _ _ h => h) (Or.inl ⟨by rfl, ?_⟩) hS2 ?_
        rotate_left 1
        · (intro w' hSw; go_simp <;> with_reducible rfl)
        try simp only [Act.put, List.setIfInBounds_toArray, List.set_cons_zero, List.set_cons_succ]
        refine take_lit (i := 8) (v := ?_) rfl (by kernel_rfl) (by kernel_rfl) (by kernel_rfl) (fun _ _ _ h => h) (Or.inl ⟨by rfl, ?_⟩) hS2 ?_
        rotate_left 1
        · (intro w' hSw; go_simp <;> with_reducible rfl)
        try simp only [Act.put, List.setIfInBounds_toArray, List.set_cons_zero, List.set_cons_succ]
        refine take_lit (i := 9) (v := ?_) rfl (by kernel_rfl) (by kernel_rfl) (by kernel_rfl) (fun _ _ _ h => h) (Or.inl ⟨by rfl, ?_⟩) hS2 ?_
        rotate_left 1
        · (intro w' hSw; go_simp <;> with_reducible rfl)
        try simp only [Act.put, List.setIfInBounds_toArray, List.set_cons_zero, List.set_cons_succ]
        refine take_lit (i := 10) (v := ?_) rfl (by kernel_rfl) (by kernel_rfl) (by kernel_rfl) (fun _ _ _ h => h) (Or.inl ⟨by rfl, ?_⟩) hS2 ?_
        rotate_left 1
        · (intro w' hSw; go_simp <;> with_reducible rfl)
        try simp only [Act.put, List.setIfInBounds_toArray, List.set_cons_zero, List.set_cons_succ]
        refine take_lit (i := 11) (v := ?_) rfl (by kernel_rfl) (by kernel_rfl) (by kernel_rfl) (fun _ _ _ h => h) (Or.inl ⟨by rfl, ?_⟩) hS2 ?_
        rotate_left 1
        · (intro w' hSw; go_simp <;> with_reducible rfl)
        try simp only [Act.put, List.setIfInBounds_toArray, List.set_cons_zero, List.set_cons_succ]
        refine take_lit (i := 12) (v := ?_) rfl (by kernel_rfl) (by kernel_rfl) (by kernel_rfl) (fun _ _ _ h => h) (Or.inl ⟨by rfl, ?_⟩) hS2 ?_
        rotate_left 1
        · (intro w' hSw; go_simp <;> with_reducible rfl)
        try simp only [Act.put, List.setIfInBounds_toArray, List.set_cons_zero, List.set_cons_succ]
        refine take_lit (i := 13) (v := .bool true) rfl (by kernel_rfl) (by kernel_rfl) (by kernel_rfl) (fun _ _ _ h => h) (Or.inl ⟨by rfl, ?_⟩) hS2 ?_
        · (intro w' hSw; go_simp <;> first | omega | exact iz)
        try simp only [Act.put, List.setIfInBounds_toArray, List.set_cons_zero, List.set_cons_succ]
        refine take_lit (i := 14) (v := ?_) rfl (by kernel_rfl) (by kernel_rfl) (by kernel_rfl) (fun _ _ _ h => h) (Or.inl ⟨by rfl, ?_⟩) hS2 ?_
        rotate_left 1
        · (intro w' hSw; go_simp <;> with_reducible rfl)
        try simp only [Act.put, List.setIfInBounds_toArray, List.set_cons_zero, List.set_cons_succ]
        refine take_lit (i := 15) (v := ?_) rfl (by kernel_rfl) (by kernel_rfl) (by kernel_rfl) (fun _ _ _ h => h) (Or.inl ⟨by rfl, ?_⟩) hS2 ?_
        rotate_left 1
        · (intro w' hSw; go_simp <;> with_reducible rfl)
        try simp only [Act.put, List.setIfInBounds_toArray, List.set_cons_zero, List.set_cons_succ]
        refine wpAnyH_ready (rs := [16]) (by kernel_rfl) (by simp) ?_
        refine ready_lit rfl (fun K hK => ?_)
        go_simp
        refine (WK Z2 (B6.trans (hS2.mono B6.size))).mono ?_
        rintro en Z3 ⟨rfl, hz3⟩
        have hS3 : Below X6.heap.size X6 Z3 := hS2.trans (hz3.mono hS2.size)
        go_wp2_with fail
        refine hK.out _ _ hS3 (fun hHeld => ?_)
        clear hK K hHeld
        try simp only [Act.put, List.setIfInBounds_toArray, List.set_cons_zero, List.set_cons_succ]
        refine take_lit (i := 17) (v := ?_) rfl (by kernel_rfl) (by kernel_rfl) (by kernel_rfl) (fun _ _ _ h => h) (Or.inl ⟨by rfl, ?_⟩) hS3 ?_
        rotate_left 1
        · (intro w' hSw; go_simp <;> with_reducible rfl)
        try simp only [Act.put, List.setIfInBounds_toArray, List.set_cons_zero, List.set_cons_succ]
        refine take_lit (i := 18) (v := ?_) rfl (by kernel_rfl) (by kernel_rfl) (by kernel_rfl) (fun _ _ _ h => h) (Or.inl ⟨by rfl, ?_⟩) hS3 ?_
        rotate_left 1
        · (intro w' hSw; go_simp <;> with_reducible rfl)
        try simp only [Act.put, List.setIfInBounds_toArray, List.set_cons_zero, List.set_cons_succ]
        refine wpAnyH_done (by kernel_rfl) ?_ _
        refine NoPanic.normal ?_
        go_wp2
        go_ret
        exact ⟨rfl, FIN.out Z3 (B6.trans (hS3.mono B6.size))⟩
    · have i2 : (dd : Int) > 30 := by omega
      go_wp2
      go_ret
      exact ⟨rfl, hb2⟩
  · have i1 : (c1 : Int) > 300 := by omega
    go_wp2
    go_ret
    exact ⟨rfl, hb1⟩
end Go.Proofs.YtepadfcjjcionaaGreatDoor
