/-
  CONTRACT of the law about what stands behind a statement.
-/
import Derived.Test.YtepadfcjjcionaaGreatDoorTc
import Derived.Test.YtepadfcjjcionaaGreatDoorLd
import Derived.Test.YtepadfcjjcionaaGreatDoorRg
namespace Go.Proofs.YtepadfcjjcionaaGreatDoor
open Go.RowKit
set_option linter.unusedVariables false

set_option maxRecDepth 100000 in
set_option maxHeartbeats 1000000 in
/-- The law about what stands behind a statement. -/
theorem behind_as {w : World} (hF : FiveAt w) {op ty n op2 ty2 n2 : Int} {tx tx2 : ByteArray} {ks ks2 : List Tm} {kv kv2 : Value} (hn : inr n) (hn2 : inr n2) (hk : KidsR w kv ks) (hk2 : KidsR w kv2 ks2) :
    Calls Tryz.prog 4 #[.agg #[.int .u8 op, .int .i64 ty, .int .i64 n, .string tx, kv], .agg #[.int .u8 op2, .int .i64 ty2, .int .i64 n2, .string tx2, kv2]] w fun en w' => en = .returned (.bool true) ∧ Below w.heap.size w w' := by
  obtain ⟨ao, cap, rfl, hl1, hl2, _⟩ := id hk
  obtain ⟨ao2, cap2, rfl, hl3, hl4, _⟩ := id hk2
  obtain ⟨m, hm⟩ : ∃ m, ks.length = m := ⟨_, rfl⟩
  obtain ⟨m2, hm2⟩ : ∃ m, ks2.length = m := ⟨_, rfl⟩
  have HK : Hid (KidsR w (.slice ao m cap) ks) := by rw [← hm]; exact hk
  have HK2 : Hid (KidsR w (.slice ao2 m2 cap2) ks2) := by rw [← hm2]; exact hk2
  have HF : Hid (FiveAt w) := hF
  rw [hm] at hl1 ⊢
  rw [hm2] at hl3 ⊢
  clear hk hk2 hF
  have oA := (Own.new w #[.int .u8 op, .int .i64 ty, .int .i64 n, .string tx, .slice ao m cap] 24).alloc (.cells #[.int .u8 op2, .int .i64 ty2, .int .i64 n2, .string tx2, .slice ao2 m2 cap2] 24)
  have s1 : (w.alloc (.cells #[.int .u8 op, .int .i64 ty, .int .i64 n, .string tx, .slice ao m cap] 24)).heap.size = w.heap.size + 1 := Array.size_push ..
  have oB := Own.new (w.alloc (.cells #[.int .u8 op, .int .i64 ty, .int .i64 n, .string tx, .slice ao m cap] 24)) #[.int .u8 op2, .int .i64 ty2, .int .i64 n2, .string tx2, .slice ao2 m2 cap2] 24
  rw [s1] at oB
  have hb0 : Below w.heap.size w ((w.alloc (.cells #[.int .u8 op, .int .i64 ty, .int .i64 n, .string tx, .slice ao m cap] 24)).alloc (.cells #[.int .u8 op2, .int .i64 ty2, .int .i64 n2, .string tx2, .slice ao2 m2 cap2] 24)) := alloc2_below _ _ _
  generalize hX0 : (w.alloc (.cells #[.int .u8 op, .int .i64 ty, .int .i64 n, .string tx, .slice ao m cap] 24)).alloc (.cells #[.int .u8 op2, .int .i64 ty2, .int .i64 n2, .string tx2, .slice ao2 m2 cap2] 24) = X0 at *
  obtain ⟨d0, d1, d2, d3, d4, _⟩ := oA.five
  obtain ⟨e0, e1, e2, e3, e4, _⟩ := oB.five
  have la := oA.lt
  have lb := oB.lt
  have T1 := terms1000_as _ ⟨op, ty, n, tx, ks⟩ (Nat.le_refl _) w X0 op ty n tx _ HK.out hb0
  obtain ⟨c1, hc1⟩ : ∃ c, min (cnt ⟨op, ty, n, tx, ks⟩) 1001 = c := ⟨_, rfl⟩
  rw [hc1] at T1
  have hc1b : c1 ≤ 1001 := by omega
  go_enter Tryz.func4, Tryz.ntmps4
  go_wp2_with fail
  refine T1.mono ?_
  rintro en w1 ⟨rfl, hb1'⟩
  have oA1 := oA.below hb1'
  have oB1 := oB.below hb1'
  have hb1 : Below w.heap.size w w1 := hb0.trans (hb1'.mono hb0.size)
  clear T1 d0 d1 d2 d3 d4 e0 e1 e2 e3 e4 oA oB hb0 hb1' hX0
  obtain ⟨d0, d1, d2, d3, d4, _⟩ := oA1.five
  obtain ⟨e0, e1, e2, e3, e4, _⟩ := oB1.five
  have la1 := oA1.lt
  have lb1 := oB1.lt
  by_cases h1 : c1 ≤ 1000
  · have i1 : ¬ ((c1 : Int) > 1000) := by omega
    have T2 := terms1000_as _ ⟨op2, ty2, n2, tx2, ks2⟩ (Nat.le_refl _) w w1 op2 ty2 n2 tx2 _ HK2.out hb1
    obtain ⟨c2, hc2⟩ : ∃ c, min (cnt ⟨op2, ty2, n2, tx2, ks2⟩) 1001 = c := ⟨_, rfl⟩
    rw [hc2] at T2
    have hc2b : c2 ≤ 1001 := by omega
    go_wp2_with fail
    refine T2.mono ?_
    rintro en w2 ⟨rfl, hb2'⟩
    have oA2 := oA1.below hb2'
    have oB2 := oB1.below hb2'
    have hb2 : Below w.heap.size w w2 := hb1.trans (hb2'.mono hb1.size)
    clear T2 d0 d1 d2 d3 d4 e0 e1 e2 e3 e4 oA1 oB1 hb1 hb2' la1 lb1
    obtain ⟨d0, d1, d2, d3, d4, _⟩ := oA2.five
    obtain ⟨e0, e1, e2, e3, e4, _⟩ := oB2.five
    have la2 := oA2.lt
    have lb2 := oB2.lt
    by_cases h2 : c2 ≤ 1000
    · have i2 : ¬ ((c2 : Int) > 1000) := by omega
      have hs2 := hb2.size
      have oA3 := (oA2.alloc (.cells #[.int .u8 op, .int .i64 ty, .int .i64 n, .string tx, .slice ao m cap, .int .u8 op2, .int .i64 ty2, .int .i64 n2, .string tx2, .slice ao2 m2 cap2] 24)).alloc (.cells #[.int .u8 1, .int .i64 0, .int .i64 0, .string ⟨#[]⟩, .slice (some ⟨w2.heap.size, 0, none⟩) 2 2] 24)
      have oB3 := (oB2.alloc (.cells #[.int .u8 op, .int .i64 ty, .int .i64 n, .string tx, .slice ao m cap, .int .u8 op2, .int .i64 ty2, .int .i64 n2, .string tx2, .slice ao2 m2 cap2] 24)).alloc (.cells #[.int .u8 1, .int .i64 0, .int .i64 0, .string ⟨#[]⟩, .slice (some ⟨w2.heap.size, 0, none⟩) 2 2] 24)
      have s2 : (w2.alloc (.cells #[.int .u8 op, .int .i64 ty, .int .i64 n, .string tx, .slice ao m cap, .int .u8 op2, .int .i64 ty2, .int .i64 n2, .string tx2, .slice ao2 m2 cap2] 24)).heap.size = w2.heap.size + 1 := Array.size_push ..
      have oR3 := Own.new (w2.alloc (.cells #[.int .u8 op, .int .i64 ty, .int .i64 n, .string tx, .slice ao m cap, .int .u8 op2, .int .i64 ty2, .int .i64 n2, .string tx2, .slice ao2 m2 cap2] 24)) #[.int .u8 1, .int .i64 0, .int .i64 0, .string ⟨#[]⟩, .slice (some ⟨w2.heap.size, 0, none⟩) 2 2] 24
      rw [s2] at oR3
      have oL3 := (Own.new w2 #[.int .u8 op, .int .i64 ty, .int .i64 n, .string tx, .slice ao m cap, .int .u8 op2, .int .i64 ty2, .int .i64 n2, .string tx2, .slice ao2 m2 cap2] 24).alloc (.cells #[.int .u8 1, .int .i64 0, .int .i64 0, .string ⟨#[]⟩, .slice (some ⟨w2.heap.size, 0, none⟩) 2 2] 24)
      have hb3 : Below w.heap.size w ((w2.alloc (.cells #[.int .u8 op, .int .i64 ty, .int .i64 n, .string tx, .slice ao m cap, .int .u8 op2, .int .i64 ty2, .int .i64 n2, .string tx2, .slice ao2 m2 cap2] 24)).alloc (.cells #[.int .u8 1, .int .i64 0, .int .i64 0, .string ⟨#[]⟩, .slice (some ⟨w2.heap.size, 0, none⟩) 2 2] 24)) := (hb2.alloc hs2 _).alloc (by rw [s2]; omega) _
      generalize hX3 : (w2.alloc (.cells #[.int .u8 op, .int .i64 ty, .int .i64 n, .string tx, .slice ao m cap, .int .u8 op2, .int .i64 ty2, .int .i64 n2, .string tx2, .slice ao2 m2 cap2] 24)).alloc (.cells #[.int .u8 1, .int .i64 0, .int .i64 0, .string ⟨#[]⟩, .slice (some ⟨w2.heap.size, 0, none⟩) 2 2] 24) = X3 at *
      have KA : KidsR X3 (.slice ao m cap) ks := HK.out.below hb3
      have KB : KidsR X3 (.slice ao2 m2 cap2) ks2 := HK2.out.below hb3
      have KR : KidsR X3 (.slice (some ⟨w2.heap.size, 0, none⟩) 2 2) [⟨op, ty, n, tx, ks⟩, ⟨op2, ty2, n2, tx2, ks2⟩] := by
        obtain ⟨a1, p1, q1, q2, q3, q4⟩ := KA
        obtain ⟨a2, p2, r1, r2, r3, r4⟩ := KB
        rw [q1, r1] at oL3
        refine ⟨some ⟨w2.heap.size, 0, none⟩, 2, rfl, Nat.le_refl _, by omega, .inr ⟨w2.heap.size, 0, _, _, _, rfl, oL3, ?_⟩⟩
        rw [cellsR_cons, cellsR_cons]
        exact ⟨⟨a1, p1, rfl, rfl, rfl, rfl, rfl, q2, q3, hn, q4⟩, ⟨a2, p2, rfl, rfl, rfl, rfl, rfl, r2, r3, hn2, r4⟩, by simp [CellsR]⟩
      have hcr : cnt ⟨1, 0, 0, ⟨#[]⟩, [⟨op, ty, n, tx, ks⟩, ⟨op2, ty2, n2, tx2, ks2⟩]⟩ = 1 + (cnt ⟨op, ty, n, tx, ks⟩ + (cnt ⟨op2, ty2, n2, tx2, ks2⟩ + 0)) := cnt_parts _
      have hca : cnt ⟨op, ty, n, tx, ks⟩ ≤ 1000 := by omega
      have hcb : cnt ⟨op2, ty2, n2, tx2, ks2⟩ ≤ 1000 := by omega
      have ASA : ∀ X, Below X3.heap.size X3 X → AskIn X3 X ⟨op, ty, n, tx, ks⟩ (.slice ao m cap) := fun X h => ⟨hn, KA, h, by omega⟩
      have ASB : ∀ X, Below X3.heap.size X3 X → AskIn X3 X ⟨op2, ty2, n2, tx2, ks2⟩ (.slice ao2 m2 cap2) := fun X h => ⟨hn2, KB, h, by omega⟩
      have ASR : ∀ X, Below X3.heap.size X3 X → AskIn X3 X ⟨1, 0, 0, ⟨#[]⟩, [⟨op, ty, n, tx, ks⟩, ⟨op2, ty2, n2, tx2, ks2⟩]⟩ (.slice (some ⟨w2.heap.size, 0, none⟩) 2 2) := fun X h => ⟨inr_zero, KR, h, by omega⟩
      have bA := out_le (cnt ⟨op, ty, n, tx, ks⟩ + 1) ⟨op, ty, n, tx, ks⟩ true
      have bB := out_le (cnt ⟨op2, ty2, n2, tx2, ks2⟩ + 1) ⟨op2, ty2, n2, tx2, ks2⟩ true
      have wA := wt_le ⟨op, ty, n, tx, ks⟩
      have wB := wt_le ⟨op2, ty2, n2, tx2, ks2⟩
      have BN := @behind_not ⟨op, ty, n, tx, ks⟩ ⟨op2, ty2, n2, tx2, ks2⟩ 0 0 ⟨#[]⟩
      have BY := @behind ⟨op, ty, n, tx, ks⟩ ⟨op2, ty2, n2, tx2, ks2⟩ 0 0 ⟨#[]⟩
      have RA := fun X h => reached_as (ASA X h)
      have RB := fun X h => reached_as (ASB X h)
      have RR := fun X h => reached_as (ASR X h)
      have EA := fun X h => ends_as (ASA X h)
      have EB := fun X h => ends_as (ASB X h)
      have ER := fun X h => ends_as (ASR X h)
      change (tellF ⟨op, ty, n, tx, ks⟩ true).y + (tellF ⟨op, ty, n, tx, ks⟩ true).z ≤ _ at bA
      change (tellF ⟨op2, ty2, n2, tx2, ks2⟩ true).y + (tellF ⟨op2, ty2, n2, tx2, ks2⟩ true).z ≤ _ at bB
      generalize tellF ⟨1, 0, 0, ⟨#[]⟩, [⟨op, ty, n, tx, ks⟩, ⟨op2, ty2, n2, tx2, ks2⟩]⟩ true = rr at *
      generalize tellF ⟨op, ty, n, tx, ks⟩ true = ra at *
      generalize tellF ⟨op2, ty2, n2, tx2, ks2⟩ true = rb at *
      have j1 : ra.y + ra.z ≤ 3000 := by omega
      have j2 : rb.y + rb.z ≤ 3000 := by omega
      clear bA bB wA wB hcr hca hcb ASA ASB ASR KA KB KR oL3 oA2 oB2 hc1 hc2
      obtain ⟨rae, raw, ray, raz⟩ := ra
      obtain ⟨rbe, rbw, rby, rbz⟩ := rb
      obtain ⟨rre, rrw, rry, rrz⟩ := rr
      simp only at *
      have WK : ∀ X, Below X3.heap.size X3 X → Calls Tryz.prog 11 #[] X fun en w' => en = .returned (.bool true) ∧ Below X.heap.size X w' := fun X h => works_any ((HF.out.below HF.out.lt hb3).below (Nat.lt_of_lt_of_le HF.out.lt hb3.size) h)
      have FIN : Hid (∀ X, Below X3.heap.size X3 X → Below w.heap.size w X) := fun X h => hb3.trans (h.mono hb3.size)
      obtain ⟨a30, a31, a32, a33, a34, _⟩ := oA3.five
      have lA3 := oA3.lt
      obtain ⟨b30, b31, b32, b33, b34, _⟩ := oB3.five
      have lB3 := oB3.lt
      obtain ⟨r30, r31, r32, r33, r34, _⟩ := oR3.five
      have lR3 := oR3.lt
      have B3 : Below X3.heap.size X3 X3 := Below.refl _ _
      have k1 : (ray : Int) ≤ 3000 := by omega
      have k2 : (raz : Int) ≤ 3000 := by omega
      have k3 : (rby : Int) ≤ 3000 := by omega
      have k4 : (rbz : Int) ≤ 3000 := by omega
      have k5 : (0 : Int) ≤ ray := by omega
      have k6 : (0 : Int) ≤ raz := by omega
      have k7 : (0 : Int) ≤ rby := by omega
      have k8 : (0 : Int) ≤ rbz := by omega
      go_wp2_with fail
      clear hX3
      refine (RA X3 B3).mono ?_
      rintro en X4 ⟨rfl, hq4⟩
      have oA4 := oA3.below hq4
      have oB4 := oB3.below hq4
      have oR4 := oR3.below hq4
      have B4 : Below X3.heap.size X3 X4 := Below.trans B3 (hq4.mono (Below.size B3))
      clear a30 a31 a32 a33 a34 b30 b31 b32 b33 b34 r30 r31 r32 r33 r34 lA3 lB3 lR3 oA3 oB3 oR3
      clear hq4
      obtain ⟨a40, a41, a42, a43, a44, _⟩ := oA4.five
      have lA4 := oA4.lt
      obtain ⟨b40, b41, b42, b43, b44, _⟩ := oB4.five
      have lB4 := oB4.lt
      obtain ⟨r40, r41, r42, r43, r44, _⟩ := oR4.five
      have lR4 := oR4.lt
      go_wp2_with fail
      refine (RB X4 B4).mono ?_
      rintro en X5 ⟨rfl, hq5⟩
      have oA5 := oA4.below hq5
      have oB5 := oB4.below hq5
      have oR5 := oR4.below hq5
      have B5 : Below X3.heap.size X3 X5 := Below.trans B4 (hq5.mono (Below.size B4))
      clear a40 a41 a42 a43 a44 b40 b41 b42 b43 b44 r40 r41 r42 r43 r44 lA4 lB4 lR4 oA4 oB4 oR4
      clear hq5
      obtain ⟨a50, a51, a52, a53, a54, _⟩ := oA5.five
      have lA5 := oA5.lt
      obtain ⟨b50, b51, b52, b53, b54, _⟩ := oB5.five
      have lB5 := oB5.lt
      obtain ⟨r50, r51, r52, r53, r54, _⟩ := oR5.five
      have lR5 := oR5.lt
      go_wp2_with fail
      refine (RR X5 B5).mono ?_
      rintro en X6 ⟨rfl, hq6⟩
      have oA6 := oA5.below hq6
      have oB6 := oB5.below hq6
      have oR6 := oR5.below hq6
      have B6 : Below X3.heap.size X3 X6 := Below.trans B5 (hq6.mono (Below.size B5))
      clear a50 a51 a52 a53 a54 b50 b51 b52 b53 b54 r50 r51 r52 r53 r54 lA5 lB5 lR5 oA5 oB5 oR5
      clear hq6
      obtain ⟨a60, a61, a62, a63, a64, _⟩ := oA6.five
      have lA6 := oA6.lt
      obtain ⟨b60, b61, b62, b63, b64, _⟩ := oB6.five
      have lB6 := oB6.lt
      obtain ⟨r60, r61, r62, r63, r64, _⟩ := oR6.five
      have lR6 := oR6.lt
      cases rae
      · obtain ⟨rfl, rfl, rfl⟩ := BN rfl
        clear BN BY
        go_wp2_with fail
        refine (EA X6 B6).mono ?_
        rintro en X7 ⟨rfl, hq7⟩
        have oA7 := oA6.below hq7
        have oB7 := oB6.below hq7
        have oR7 := oR6.below hq7
        have B7 : Below X3.heap.size X3 X7 := Below.trans B6 (hq7.mono (Below.size B6))
        clear a60 a61 a62 a63 a64 b60 b61 b62 b63 b64 r60 r61 r62 r63 r64 lA6 lB6 lR6 oA6 oB6 oR6
        clear hq7
        obtain ⟨a70, a71, a72, a73, a74, _⟩ := oA7.five
        have lA7 := oA7.lt
        obtain ⟨b70, b71, b72, b73, b74, _⟩ := oB7.five
        have lB7 := oB7.lt
        obtain ⟨r70, r71, r72, r73, r74, _⟩ := oR7.five
        have lR7 := oR7.lt
        go_wp2_with fail
        refine (ER X7 B7).mono ?_
        rintro en X8 ⟨rfl, hq8⟩
        have oA8 := oA7.below hq8
        have oB8 := oB7.below hq8
        have oR8 := oR7.below hq8
        have B8 : Below X3.heap.size X3 X8 := Below.trans B7 (hq8.mono (Below.size B7))
        clear a70 a71 a72 a73 a74 b70 b71 b72 b73 b74 r70 r71 r72 r73 r74 lA7 lB7 lR7 oA7 oB7 oR7
        clear hq8
        obtain ⟨a80, a81, a82, a83, a84, _⟩ := oA8.five
        have lA8 := oA8.lt
        obtain ⟨b80, b81, b82, b83, b84, _⟩ := oB8.five
        have lB8 := oB8.lt
        obtain ⟨r80, r81, r82, r83, r84, _⟩ := oR8.five
        have lR8 := oR8.lt
        go_wp2_with fail
        refine (WK X8 B8).mono ?_
        rintro en X9 ⟨rfl, hq9⟩
        go_wp2
        go_ret
        exact ⟨rfl, FIN.out X9 (B8.trans (hq9.mono B8.size))⟩
      · obtain ⟨rfl, rfl, rfl⟩ := BY rfl
        clear BN BY
        go_wp2_with fail
        refine (EA X6 B6).mono ?_
        rintro en X7 ⟨rfl, hq7⟩
        have oA7 := oA6.below hq7
        have oB7 := oB6.below hq7
        have oR7 := oR6.below hq7
        have B7 : Below X3.heap.size X3 X7 := Below.trans B6 (hq7.mono (Below.size B6))
        clear a60 a61 a62 a63 a64 b60 b61 b62 b63 b64 r60 r61 r62 r63 r64 lA6 lB6 lR6 oA6 oB6 oR6
        clear hq7
        obtain ⟨a70, a71, a72, a73, a74, _⟩ := oA7.five
        have lA7 := oA7.lt
        obtain ⟨b70, b71, b72, b73, b74, _⟩ := oB7.five
        have lB7 := oB7.lt
        obtain ⟨r70, r71, r72, r73, r74, _⟩ := oR7.five
        have lR7 := oR7.lt
        go_wp2_with fail
        have c1 : IntKind.i64.wrap ((ray : Int) + (rby : Int)) = (ray : Int) + (rby : Int) := IntWalk.i64_in _ (by omega)
        refine wp_region_noPanic ?_
        refine wp_region_held_drew (S := fun w' => Below X7.heap.size X7 w') (by kernel_rfl) (Below.refl _ _).drew (fun hS0 => ?_)
        refine take_lit (i := 0) (v := ?_) rfl (by kernel_rfl) (by kernel_rfl) (by kernel_rfl) (fun _ _ _ h => h) (Or.inl ⟨by rfl, ?_⟩) hS0 ?_
        rotate_left 1
        · (intro w' hSw; obtain ⟨s0, s1, s2, s3, s4, _⟩ := (oR7.below hSw).five; go_simp <;> with_reducible rfl)
        try simp only [Act.put, List.setIfInBounds_toArray, List.set_cons_zero, List.set_cons_succ]
        refine take_lit (i := 2) (v := ?_) rfl (by kernel_rfl) (by kernel_rfl) (by kernel_rfl) (fun _ _ _ h => h) (Or.inl ⟨by rfl, ?_⟩) hS0 ?_
        rotate_left 1
        · (intro w' hSw; obtain ⟨s0, s1, s2, s3, s4, _⟩ := (oB7.below hSw).five; go_simp <;> with_reducible rfl)
        try simp only [Act.put, List.setIfInBounds_toArray, List.set_cons_zero, List.set_cons_succ]
        refine wpAnyH_ready (rs := [1]) (by kernel_rfl) (by simp) ?_
        refine ready_lit rfl (fun K hK => ?_)
        go_simp
        refine (ER X7.drew (B7.trans (hS0.mono B7.size))).mono ?_
        rintro en Y1 ⟨rfl, hy1⟩
        have hS1 : Below X7.heap.size X7 Y1 := hS0.trans (hy1.mono hS0.size)
        go_wp2_with fail
        refine hK.out _ _ hS1 (fun hHeld => ?_)
        clear hK K hHeld
        try simp only [Act.put, List.setIfInBounds_toArray, List.set_cons_zero, List.set_cons_succ]
        refine wpAnyH_ready (rs := [3]) (by kernel_rfl) (by simp) ?_
        refine ready_lit rfl (fun K hK => ?_)
        go_simp
        refine (EB Y1 (B7.trans (hS1.mono B7.size))).mono ?_
        rintro en Y2 ⟨rfl, hy2⟩
        have hS2 : Below X7.heap.size X7 Y2 := hS1.trans (hy2.mono hS1.size)
        go_wp2_with fail
        refine hK.out _ _ hS2 (fun hHeld => ?_)
        clear hK K hHeld
        try simp only [Act.put, List.setIfInBounds_toArray, List.set_cons_zero, List.set_cons_succ]
        refine take_lit (i := 4) (v := ?_) rfl (by kernel_rfl) (by kernel_rfl) (by kernel_rfl) (fun _ _ _ h => h) (Or.inl ⟨by rfl, ?_⟩) hS2 ?_
        rotate_left 1
        · (intro w' hSw; go_simp <;> with_reducible rfl)
        try simp only [Act.put, List.setIfInBounds_toArray, List.set_cons_zero, List.set_cons_succ]
        refine take_lit (i := 5) (v := ?_) rfl (by kernel_rfl) (by kernel_rfl) (by kernel_rfl) (fun _ _ _ h => h) (Or.inl ⟨by rfl, ?_⟩) hS2 ?_
        rotate_left 1
        · (intro w' hSw; go_simp <;> with_reducible rfl)
        try simp only [Act.put, List.setIfInBounds_toArray, List.set_cons_zero, List.set_cons_succ]
        refine take_lit (i := 6) (v := ?_) rfl (by kernel_rfl) (by kernel_rfl) (by kernel_rfl) (fun _ _ _ h => h) (Or.inl ⟨by rfl, ?_⟩) hS2 ?_
        rotate_left 1
        · (intro w' hSw; go_simp <;> with_reducible rfl)
        try simp only [Act.put, List.setIfInBounds_toArray, List.set_cons_zero, List.set_cons_succ]
        refine take_lit (i := 7) (v := ?_) rfl (by kernel_rfl) (by kernel_rfl) (by kernel_rfl) (fun _ _ _ h => h) (Or.inl ⟨by rfl, ?_⟩) hS2 ?_
        rotate_left 1
        · (intro w' hSw; go_simp <;> with_reducible rfl)
        try simp only [Act.put, List.setIfInBounds_toArray, List.set_cons_zero, List.set_cons_succ]
        refine take_lit (i := 8) (v := ?_) rfl (by kernel_rfl) (by kernel_rfl) (by kernel_rfl) (fun _ _ _ h => h) (Or.inl ⟨by rfl, ?_⟩) hS2 ?_
        rotate_left 1
        · (intro w' hSw; go_simp <;> with_reducible rfl)
        try simp only [Act.put, List.setIfInBounds_toArray, List.set_cons_zero, List.set_cons_succ]
        refine take_lit (i := 9) (v := ?_) rfl (by kernel_rfl) (by kernel_rfl) (by kernel_rfl) (fun _ _ _ h => h) (Or.inl ⟨by rfl, ?_⟩) hS2 ?_
        rotate_left 1
        · (intro w' hSw; go_simp <;> with_reducible rfl)
        try simp only [Act.put, List.setIfInBounds_toArray, List.set_cons_zero, List.set_cons_succ]
        refine take_lit (i := 10) (v := ?_) rfl (by kernel_rfl) (by kernel_rfl) (by kernel_rfl) (fun _ _ _ h => h) (Or.inl ⟨by rfl, ?_⟩) hS2 ?_
        rotate_left 1
        · (intro w' hSw; go_simp <;> with_reducible rfl)
        try simp only [Act.put, List.setIfInBounds_toArray, List.set_cons_zero, List.set_cons_succ]
        refine take_lit (i := 11) (v := .bool true) rfl (by kernel_rfl) (by kernel_rfl) (by kernel_rfl) (fun _ _ _ h => h) (Or.inl ⟨by rfl, ?_⟩) hS2 ?_
        · (intro w' hSw; go_simp; (first | exact (IntWalk.i64_in _ (by omega)).symm | (rw [IntWalk.i64_in _ (by omega)]; rfl) | (rw [IntWalk.i64_in _ (by omega)]; simp) | (simp [IntWalk.i64_in _ (show -9223372036854775808 ≤ (raz : Int) + (rbz : Int) ∧ (raz : Int) + (rbz : Int) ≤ 9223372036854775807 by omega)])))
        try simp only [Act.put, List.setIfInBounds_toArray, List.set_cons_zero, List.set_cons_succ]
        refine take_lit (i := 12) (v := ?_) rfl (by kernel_rfl) (by kernel_rfl) (by kernel_rfl) (fun _ _ _ h => h) (Or.inl ⟨by rfl, ?_⟩) hS2 ?_
        rotate_left 1
        · (intro w' hSw; go_simp <;> with_reducible rfl)
        try simp only [Act.put, List.setIfInBounds_toArray, List.set_cons_zero, List.set_cons_succ]
        refine take_lit (i := 13) (v := ?_) rfl (by kernel_rfl) (by kernel_rfl) (by kernel_rfl) (fun _ _ _ h => h) (Or.inl ⟨by rfl, ?_⟩) hS2 ?_
        rotate_left 1
        · (intro w' hSw; go_simp <;> with_reducible rfl)
        try simp only [Act.put, List.setIfInBounds_toArray, List.set_cons_zero, List.set_cons_succ]
        refine take_lit (i := 14) (v := ?_) rfl (by kernel_rfl) (by kernel_rfl) (by kernel_rfl) (fun _ _ _ h => h) (Or.inl ⟨by rfl, ?_⟩) hS2 ?_
        rotate_left 1
        · (intro w' hSw; go_simp <;> with_reducible rfl)
        try simp only [Act.put, List.setIfInBounds_toArray, List.set_cons_zero, List.set_cons_succ]
        refine take_lit (i := 15) (v := ?_) rfl (by kernel_rfl) (by kernel_rfl) (by kernel_rfl) (fun _ _ _ h => h) (Or.inl ⟨by rfl, ?_⟩) hS2 ?_
        rotate_left 1
        · (intro w' hSw; go_simp <;> with_reducible rfl)
        try simp only [Act.put, List.setIfInBounds_toArray, List.set_cons_zero, List.set_cons_succ]
        refine take_lit (i := 16) (v := ?_) rfl (by kernel_rfl) (by kernel_rfl) (by kernel_rfl) (fun _ _ _ h => h) (Or.inl ⟨by rfl, ?_⟩) hS2 ?_
        rotate_left 1
        · (intro w' hSw; go_simp <;> with_reducible rfl)
        try simp only [Act.put, List.setIfInBounds_toArray, List.set_cons_zero, List.set_cons_succ]
        refine take_lit (i := 17) (v := ?_) rfl (by kernel_rfl) (by kernel_rfl) (by kernel_rfl) (fun _ _ _ h => h) (Or.inl ⟨by rfl, ?_⟩) hS2 ?_
        rotate_left 1
        · (intro w' hSw; go_simp <;> with_reducible rfl)
        try simp only [Act.put, List.setIfInBounds_toArray, List.set_cons_zero, List.set_cons_succ]
        refine take_lit (i := 18) (v := .bool true) rfl (by kernel_rfl) (by kernel_rfl) (by kernel_rfl) (fun _ _ _ h => h) (Or.inl ⟨by rfl, ?_⟩) hS2 ?_
        · (intro w' hSw; go_simp; (first | exact (IntWalk.i64_in _ (by omega)).symm | (rw [IntWalk.i64_in _ (by omega)]; rfl) | (rw [IntWalk.i64_in _ (by omega)]; simp) | (simp [IntWalk.i64_in _ (show -9223372036854775808 ≤ (raz : Int) + (rbz : Int) ∧ (raz : Int) + (rbz : Int) ≤ 9223372036854775807 by omega)])))
        try simp only [Act.put, List.setIfInBounds_toArray, List.set_cons_zero, List.set_cons_succ]
        refine take_lit (i := 19) (v := ?_) rfl (by kernel_rfl) (by kernel_rfl) (by kernel_rfl) (fun _ _ _ h => h) (Or.inl ⟨by rfl, ?_⟩) hS2 ?_
        rotate_left 1
        · (intro w' hSw; go_simp <;> with_reducible rfl)
        try simp only [Act.put, List.setIfInBounds_toArray, List.set_cons_zero, List.set_cons_succ]
        refine take_lit (i := 20) (v := ?_) rfl (by kernel_rfl) (by kernel_rfl) (by kernel_rfl) (fun _ _ _ h => h) (Or.inl ⟨by rfl, ?_⟩) hS2 ?_
        rotate_left 1
        · (intro w' hSw; go_simp <;> with_reducible rfl)
        try simp only [Act.put, List.setIfInBounds_toArray, List.set_cons_zero, List.set_cons_succ]
        refine wpAnyH_ready (rs := [21]) (by kernel_rfl) (by simp) ?_
        refine ready_lit rfl (fun K hK => ?_)
        go_simp
        refine (WK Y2 (B7.trans (hS2.mono B7.size))).mono ?_
        rintro en Y3 ⟨rfl, hy3⟩
        have hS3 : Below X7.heap.size X7 Y3 := hS2.trans (hy3.mono hS2.size)
        go_wp2_with fail
        refine hK.out _ _ hS3 (fun hHeld => ?_)
        clear hK K hHeld
        try simp only [Act.put, List.setIfInBounds_toArray, List.set_cons_zero, List.set_cons_succ]
        refine take_lit (i := 22) (v := ?_) rfl (by kernel_rfl) (by kernel_rfl) (by kernel_rfl) (fun _ _ _ h => h) (Or.inl ⟨by rfl, ?_⟩) hS3 ?_
        rotate_left 1
        · (intro w' hSw; go_simp <;> with_reducible rfl)
        try simp only [Act.put, List.setIfInBounds_toArray, List.set_cons_zero, List.set_cons_succ]
        refine take_lit (i := 23) (v := ?_) rfl (by kernel_rfl) (by kernel_rfl) (by kernel_rfl) (fun _ _ _ h => h) (Or.inl ⟨by rfl, ?_⟩) hS3 ?_
        rotate_left 1
        · (intro w' hSw; go_simp <;> with_reducible rfl)
        try simp only [Act.put, List.setIfInBounds_toArray, List.set_cons_zero, List.set_cons_succ]
        refine wpAnyH_done (by kernel_rfl) ?_ _
        refine NoPanic.normal ?_
        go_wp2
        go_ret
        exact ⟨rfl, FIN.out Y3 (B7.trans (hS3.mono B7.size))⟩
    · have i2 : (c2 : Int) > 1000 := by omega
      go_wp2
      go_ret
      exact ⟨rfl, hb2⟩
  · have i1 : (c1 : Int) > 1000 := by omega
    go_wp2
    go_ret
    exact ⟨rfl, hb1⟩
end Go.Proofs.YtepadfcjjcionaaGreatDoor
