import Derived.Test.YtmhnbklchnnbaaaGreatDoorJStmt7
set_option maxHeartbeats 1000000
set_option maxRecDepth 100000
namespace Go.Proofs.YtmhnbklchnnbaaaGreatDoor
open Go.RowKit
set_option linter.unusedVariables false
theorem prounds_as {expr : P Tree} {stmts : P (List Tree)} {c : Nat} (f : Nat) (HV : PartAs 122 (varP f expr) c) (HP : PartAs 37 expr c) (HS : PartAs 131 (simpleP f expr) c) (HB : PartAs 70 (blockP stmts) c) : ListAs 119 (roundsP f expr stmts) c := by
  intro w r E d s ts s' hR hE hd hm
  have hrl := hR.lt
  have hK := Kp.refl r w
  obtain ⟨x1, s1, h1, h2⟩ := bnd_some hm
  obtain ⟨tk1, s2, h3, h4⟩ := bnd_some h2
  obtain ⟨x2, s3, h5, h6⟩ := bnd_some h4
  obtain ⟨tk2, s4, h7, h8⟩ := bnd_some h6
  obtain ⟨x3, s5, h9, h10⟩ := bnd_some h8
  obtain ⟨x4, s6, h11, h12⟩ := bnd_some h10
  obtain ⟨rfl, rfl⟩ := ret_some h12
  obtain ⟨q1, hq1⟩ : ∃ q, isT 4 [⟨#[59]⟩] (nxt E s1) = q := ⟨_, rfl⟩
  have hn1 : needT q1 E d s1 = some (tk1, s2) := by rw [← hq1, isT_sg]; exact h3
  obtain ⟨q2, hq2⟩ : ∃ q, isT 4 [⟨#[59]⟩] (nxt E s3) = q := ⟨_, rfl⟩
  have hn2 : needT q2 E d s3 = some (tk2, s4) := by rw [← hq2, isT_sg]; exact h7
  obtain ⟨kA, txA, nnA, aA, eA, htA⟩ := tokIs tk1
  obtain ⟨kB, txB, nnB, aB, eB, htB⟩ := tokIs tk2
  clear hm h2 h3 h4 h6 h7 h8 h10 h12
  go_enter Tryz.func119, Tryz.ntmps119
  go_wp2_with fail
  refine (punless_as ⟨#[59]⟩ fn_varOrSimple HV _ _ _ _ _ _ _ hR hE hd h1).mono ?_
  rintro en w1 ⟨k1, a1, b1, n1x, v1, rfl, m1, hR2, hK2⟩
  obtain ⟨ao_m1, cap_m1, rfl⟩ := m1.2.2.2.2.shape
  have hs1 := (((Kp.refl r w)).trans hK2).size
  replace hK := (hK).trans hK2
  replace hR := hR2
  clear hK2 hR2
  have m1i := KI.refl w.heap.size w1.heap.size w1
  go_upto_region 2 with fail
  have hzbA := hR.lt
  have hkbA := hK.size
  have bA := Own.new w1 #[.int .u8 k1, .int .i64 a1, .string b1, .int .u64 n1x, .slice ao_m1 x1.kids.length cap_m1] 25
  replace hR := hR.alloc (.cells #[.int .u8 k1, .int .i64 a1, .string b1, .int .u64 n1x, .slice ao_m1 x1.kids.length cap_m1] 25)
  replace hK := hK.alloc (.cells #[.int .u8 k1, .int .i64 a1, .string b1, .int .u64 n1x, .slice ao_m1 x1.kids.length cap_m1] 25)
  replace m1i := m1i.alloc (by omega) (.cells #[.int .u8 k1, .int .i64 a1, .string b1, .int .u64 n1x, .slice ao_m1 x1.kids.length cap_m1] 25)
  generalize hw : w1.alloc (.cells #[.int .u8 k1, .int .i64 a1, .string b1, .int .u64 n1x, .slice ao_m1 x1.kids.length cap_m1] 25) = w2 at hR hK bA m1i ⊢
  clear hw
  have hs2 := bA.lt
  go_wp2_with fail
  refine (psign_as (hR.alloc _) hE (xs := [⟨#[59]⟩]) (Own.new w2 _ _) 1 rfl (by omega) q1 hq1).mono ?_
  rintro en w3 ⟨rfl, hR2, hb⟩
  have hs3 := (((Kp.refl r w2).alloc _).trans (Kp.of hb)).size
  replace bA := (bA.alloc _).below hb
  replace m1i := m1i.kp (by omega) (((Kp.refl r _).alloc _).trans (Kp.of hb)) (by omega)
  replace hK := (hK.alloc _).trans (Kp.of hb)
  replace hR := hR2
  clear hb hR2
  go_wp2_with fail
  refine (pneed_as hR hE q1 hn1 htA).mono ?_
  rintro en w4 ⟨rfl, hR2, hK2⟩
  have hs4 := (((Kp.refl r w3)).trans hK2).size
  replace bA := (bA).kp hK2 (by omega)
  replace m1i := m1i.kp (by omega) (((Kp.refl r _)).trans hK2) (by omega)
  replace hK := (hK).trans hK2
  replace hR := hR2
  clear hK2 hR2
  clear hq1 hn1 h1
  go_wp2_with fail
  refine (punless_as ⟨#[59]⟩ fn_expr HP _ _ _ _ _ _ _ hR hE hd h5).mono ?_
  rintro en w5 ⟨k2, a2, b2, n2x, v2, rfl, m2, hR2, hK2⟩
  obtain ⟨ao_m2, cap_m2, rfl⟩ := m2.2.2.2.2.shape
  have hs5 := (((Kp.refl r w4)).trans hK2).size
  replace bA := (bA).kp hK2 (by omega)
  replace m1i := m1i.kp (by omega) (((Kp.refl r _)).trans hK2) (by omega)
  replace hK := (hK).trans hK2
  replace hR := hR2
  clear hK2 hR2
  have m2i := KI.refl w4.heap.size w5.heap.size w5
  go_upto_region 4 with fail
  have hzbB := hR.lt
  have hkbB := hK.size
  have bB := Own.new w5 #[.int .u8 k2, .int .i64 a2, .string b2, .int .u64 n2x, .slice ao_m2 x2.kids.length cap_m2] 25
  replace hR := hR.alloc (.cells #[.int .u8 k2, .int .i64 a2, .string b2, .int .u64 n2x, .slice ao_m2 x2.kids.length cap_m2] 25)
  replace hK := hK.alloc (.cells #[.int .u8 k2, .int .i64 a2, .string b2, .int .u64 n2x, .slice ao_m2 x2.kids.length cap_m2] 25)
  replace bA := bA.alloc (.cells #[.int .u8 k2, .int .i64 a2, .string b2, .int .u64 n2x, .slice ao_m2 x2.kids.length cap_m2] 25)
  replace m1i := m1i.alloc (by omega) (.cells #[.int .u8 k2, .int .i64 a2, .string b2, .int .u64 n2x, .slice ao_m2 x2.kids.length cap_m2] 25)
  replace m2i := m2i.alloc (by omega) (.cells #[.int .u8 k2, .int .i64 a2, .string b2, .int .u64 n2x, .slice ao_m2 x2.kids.length cap_m2] 25)
  generalize hw : w5.alloc (.cells #[.int .u8 k2, .int .i64 a2, .string b2, .int .u64 n2x, .slice ao_m2 x2.kids.length cap_m2] 25) = w6 at hR hK bB bA m1i m2i ⊢
  clear hw
  have hs6 := bB.lt
  go_wp2_with fail
  refine (psign_as (hR.alloc _) hE (xs := [⟨#[59]⟩]) (Own.new w6 _ _) 1 rfl (by omega) q2 hq2).mono ?_
  rintro en w7 ⟨rfl, hR2, hb⟩
  have hs7 := (((Kp.refl r w6).alloc _).trans (Kp.of hb)).size
  replace bA := (bA.alloc _).below hb
  replace bB := (bB.alloc _).below hb
  replace m1i := m1i.kp (by omega) (((Kp.refl r _).alloc _).trans (Kp.of hb)) (by omega)
  replace m2i := m2i.kp (by omega) (((Kp.refl r _).alloc _).trans (Kp.of hb)) (by omega)
  replace hK := (hK.alloc _).trans (Kp.of hb)
  replace hR := hR2
  clear hb hR2
  go_wp2_with fail
  refine (pneed_as hR hE q2 hn2 htB).mono ?_
  rintro en w8 ⟨rfl, hR2, hK2⟩
  have hs8 := (((Kp.refl r w7)).trans hK2).size
  replace bA := (bA).kp hK2 (by omega)
  replace bB := (bB).kp hK2 (by omega)
  replace m1i := m1i.kp (by omega) (((Kp.refl r _)).trans hK2) (by omega)
  replace m2i := m2i.kp (by omega) (((Kp.refl r _)).trans hK2) (by omega)
  replace hK := (hK).trans hK2
  replace hR := hR2
  clear hK2 hR2
  clear hq2 hn2 h5
  go_wp2_with fail
  refine (punless_as ⟨#[123]⟩ fn_simple HS _ _ _ _ _ _ _ hR hE hd h9).mono ?_
  rintro en w9 ⟨k3, a3, b3, n3x, v3, rfl, m3, hR2, hK2⟩
  obtain ⟨ao_m3, cap_m3, rfl⟩ := m3.2.2.2.2.shape
  have hs9 := (((Kp.refl r w8)).trans hK2).size
  replace bA := (bA).kp hK2 (by omega)
  replace bB := (bB).kp hK2 (by omega)
  replace m1i := m1i.kp (by omega) (((Kp.refl r _)).trans hK2) (by omega)
  replace m2i := m2i.kp (by omega) (((Kp.refl r _)).trans hK2) (by omega)
  replace hK := (hK).trans hK2
  replace hR := hR2
  clear hK2 hR2
  have m3i := KI.refl w8.heap.size w9.heap.size w9
  go_upto_region 6 with fail
  have hzbC := hR.lt
  have hkbC := hK.size
  have bC := Own.new w9 #[.int .u8 k3, .int .i64 a3, .string b3, .int .u64 n3x, .slice ao_m3 x3.kids.length cap_m3] 25
  replace hR := hR.alloc (.cells #[.int .u8 k3, .int .i64 a3, .string b3, .int .u64 n3x, .slice ao_m3 x3.kids.length cap_m3] 25)
  replace hK := hK.alloc (.cells #[.int .u8 k3, .int .i64 a3, .string b3, .int .u64 n3x, .slice ao_m3 x3.kids.length cap_m3] 25)
  replace bA := bA.alloc (.cells #[.int .u8 k3, .int .i64 a3, .string b3, .int .u64 n3x, .slice ao_m3 x3.kids.length cap_m3] 25)
  replace bB := bB.alloc (.cells #[.int .u8 k3, .int .i64 a3, .string b3, .int .u64 n3x, .slice ao_m3 x3.kids.length cap_m3] 25)
  replace m1i := m1i.alloc (by omega) (.cells #[.int .u8 k3, .int .i64 a3, .string b3, .int .u64 n3x, .slice ao_m3 x3.kids.length cap_m3] 25)
  replace m2i := m2i.alloc (by omega) (.cells #[.int .u8 k3, .int .i64 a3, .string b3, .int .u64 n3x, .slice ao_m3 x3.kids.length cap_m3] 25)
  replace m3i := m3i.alloc (by omega) (.cells #[.int .u8 k3, .int .i64 a3, .string b3, .int .u64 n3x, .slice ao_m3 x3.kids.length cap_m3] 25)
  generalize hw : w9.alloc (.cells #[.int .u8 k3, .int .i64 a3, .string b3, .int .u64 n3x, .slice ao_m3 x3.kids.length cap_m3] 25) = w10 at hR hK bC bA bB m1i m2i m3i ⊢
  clear hw
  have hs10 := bC.lt
  clear h9
  have q1 := (m1.q.imp (Q' := fun g => w.heap.size ≤ g ∧ g < w1.heap.size) fun g g1 g2 => ⟨g2, g1⟩).on fun g hg cur ho => (m1i g hg.1 hg.2).trans ho
  have q2 := (m2.q.imp (Q' := fun g => w4.heap.size ≤ g ∧ g < w5.heap.size) fun g g1 g2 => ⟨g2, g1⟩).on fun g hg cur ho => (m2i g hg.1 hg.2).trans ho
  have q3 := (m3.q.imp (Q' := fun g => w8.heap.size ≤ g ∧ g < w9.heap.size) fun g g1 g2 => ⟨g2, g1⟩).on fun g hg cur ho => (m3i g hg.1 hg.2).trans ho
  clear m1 m2 m3 m1i m2i m3i
  obtain ⟨bA0, bA1, bA2, bA3, bA4, bAf⟩ := bA.five
  have hlbA := bA.lt
  obtain ⟨bB0, bB1, bB2, bB3, bB4, bBf⟩ := bB.five
  have hlbB := bB.lt
  obtain ⟨bC0, bC1, bC2, bC3, bC4, bCf⟩ := bC.five
  have hlbC := bC.lt
  go_wp2_with fail
  have hfx := fn_block
  go_region_law (refine step_call1 (by rfl) 70 (.tmp 29) 58 (by rfl) hfx _ (by rfl) (HB _ r E d _ x4 s6 hR.drew hE hd h11) ?_; rintro en wa7 ⟨k4, a4, b4, n4x, v4, rfl, hN4, hR7, hK7⟩; refine ⟨_, rfl, ?_⟩; obtain ⟨ao_m4, cap_m4, rfl⟩ := hN4.q.shape; have hs7 := hK7.size; rw [World.size_drew] at hs7; have bA7 := bA.drew.kp hK7 (by omega); obtain ⟨bA70, bA71, bA72, bA73, bA74, bA7f⟩ := bA7.five; have bB7 := bB.drew.kp hK7 (by omega); obtain ⟨bB70, bB71, bB72, bB73, bB74, bB7f⟩ := bB7.five; have bC7 := bC.drew.kp hK7 (by omega); obtain ⟨bC70, bC71, bC72, bC73, bC74, bC7f⟩ := bC7.five)
  all_goals
    have p1 := (q1.imp (Q' := fun g => w.heap.size ≤ g ∧ g < w1.heap.size) fun g _ h => ⟨by omega, by omega⟩).on fun g hg cur ho => ho.drew.kp hK7 (by omega)
    have p2 := (q2.imp (Q' := fun g => w.heap.size ≤ g ∧ w1.heap.size ≤ g ∧ g < w5.heap.size) fun g _ h => ⟨by omega, by omega, by omega⟩).on fun g hg cur ho => ho.drew.kp hK7 (by omega)
    have p3 := (q3.imp (Q' := fun g => w.heap.size ≤ g ∧ w5.heap.size ≤ g ∧ g < w9.heap.size) fun g _ h => ⟨by omega, by omega, by omega⟩).on fun g hg cur ho => ho.drew.kp hK7 (by omega)
    have p4 := hN4.q.imp (Q' := fun g => w.heap.size ≤ g ∧ w9.heap.size ≤ g) fun g _ h => by rw [World.size_drew] at h; exact ⟨by omega, by omega⟩
    have hrow := RowQ.four w1.heap.size w5.heap.size w9.heap.size (by omega) (by omega) p1 p2 p3 p4 (by omega)
    have hR8 := hR7.alloc (.cells #[.int .u8 k1, .int .i64 a1, .string b1, .int .u64 n1x, .slice ao_m1 x1.kids.length cap_m1, .int .u8 k2, .int .i64 a2, .string b2, .int .u64 n2x, .slice ao_m2 x2.kids.length cap_m2, .int .u8 k3, .int .i64 a3, .string b3, .int .u64 n3x, .slice ao_m3 x3.kids.length cap_m3, .int .u8 k4, .int .i64 a4, .string b4, .int .u64 n4x, .slice ao_m4 x4.kids.length cap_m4] 25)
    have hK8 := (hK.drew.trans hK7).alloc (.cells #[.int .u8 k1, .int .i64 a1, .string b1, .int .u64 n1x, .slice ao_m1 x1.kids.length cap_m1, .int .u8 k2, .int .i64 a2, .string b2, .int .u64 n2x, .slice ao_m2 x2.kids.length cap_m2, .int .u8 k3, .int .i64 a3, .string b3, .int .u64 n3x, .slice ao_m3 x3.kids.length cap_m3, .int .u8 k4, .int .i64 a4, .string b4, .int .u64 n4x, .slice ao_m4 x4.kids.length cap_m4] 25)
    go_wp2
    go_ret
    exact ⟨_, rfl, hrow, hR8, hK8⟩
def CaseRel (w : World) (r E d : Nat) (m : Nat → List Tree → P (List Tree)) (l : List Tree) (s' : St) (g : Nat) (v : Value) (wr : World) : Prop :=
  ∃ acc sl, m g acc E d sl = some (l, s') ∧ RdAt wr r E d sl ∧ Row wr w.heap.size v acc ∧ Kp r w wr ∧ acc.length + g ≤ 900000000
theorem pchoice_as {expr : P Tree} {stmts : P (List Tree)} {c : Nat} (f : Nat) (hf : f ≤ 100000000) (HP : PartAs 37 expr c) (HA : PartAs 133 (armP stmts) c) : ListAs 120 (choiceP f expr stmts) (c + 1) := by
  intro w r E d s ts s' hR hE hd hm
  have hrl := hR.lt
  have hK := Kp.refl r w
  obtain ⟨x0, s1, h1, h2⟩ := bnd_some hm
  obtain ⟨y, s2, h3, h4⟩ := bnd_some h2
  obtain ⟨rfl, rfl⟩ := ret_some h4
  obtain ⟨tk, s3, h5, h6⟩ := bnd_some h3
  obtain ⟨l, s4, h7, h8⟩ := bnd_some h6
  obtain ⟨tk2, s5, h9, h10⟩ := bnd_some h8
  obtain ⟨rfl, rfl⟩ := ret_some h10
  unfold deeper at h7
  obtain ⟨l0, s6, h11, h12⟩ := bnd_some h7
  replace h12 := look_some h12
  obtain ⟨k, tx, nn, a, e, ht⟩ := tokIs tk
  clear hm h2 h3 h4 h6 h7 h8 h10
  go_enter Tryz.func120, Tryz.ntmps120
  go_wp2_with fail
  refine (HP _ _ _ _ _ _ _ hR hE (by omega) h1).mono ?_
  rintro en w1 ⟨k1, a1, b1, n1x, v1, rfl, n1, hR2, hK2⟩
  have hs1 := (((Kp.refl r w)).trans hK2).size
  replace hK := (hK).trans hK2
  replace hR := hR2
  clear hK2 hR2
  have n1i := KI.refl w.heap.size w1.heap.size w1
  have hrow := Row.one n1 (Nat.le_refl _) hs1
  replace hR := hR.alloc (.cells #[.int .u8 k1, .int .i64 a1, .string b1, .int .u64 n1x, v1] 25)
  replace hK := hK.alloc (.cells #[.int .u8 k1, .int .i64 a1, .string b1, .int .u64 n1x, v1] 25)
  clear n1 n1i h1
  go_wp2_with fail
  have hsx : w1.heap.size < (w1.alloc (.cells #[.int .u8 k1, .int .i64 a1, .string b1, .int .u64 n1x, v1] 25)).heap.size := by rw [World.size_alloc]; omega
  generalize hw : w1.alloc (.cells #[.int .u8 k1, .int .i64 a1, .string b1, .int .u64 n1x, v1] 25) = w2 at hR hK hrow hsx ⊢
  clear hw
  have hrowi := KI.refl w.heap.size w2.heap.size w2
  refine (popen_as hR hE (by omega) ⟨#[123]⟩ h5 ht).mono ?_
  rintro en w3 ⟨rfl, hR2, hK2⟩
  have hs3 := hK2.size
  replace hrow := hrow.kp hK2 hrl
  replace hK := hK.trans hK2
  replace hR := hR2
  clear hK2 hR2 hrowi h5
  go_wp2_with fail
  go_loopg [3] f (fun g v wr => CaseRel w r E (d + 1) (caseL f stmts) l0 s6 g v wr)
  case atStart => exact ⟨[x0], _, h11, hR, hrow, hK, by simp; omega⟩
  case round =>
    clear hR hK hrow h11
    obtain ⟨acc, sl, hm, hR, hrow, hK, hlen⟩ := hrel
    cases gk with
    | zero => cases hm
    | succ gk =>
      unfold caseL at hm
      replace hm := look_some hm
      obtain ⟨ao, cap, rfl⟩ := hrow.shape
      obtain ⟨q, hq⟩ : ∃ q, isT 1 [⟨#[99, 97, 115, 101]⟩] (nxt E sl) = q := ⟨_, rfl⟩
      have hq2 : wd [99, 97, 115, 101] (nxt E sl) = q := (isT_wd _ _).symm.trans hq
      rw [hq2] at hm
      clear hq2
      have hw0 := hK.size
      have hzr := hR.lt
      have hrowi := KI.refl w.heap.size wr.heap.size wr
      go_wp2_with fail
      refine (pword_as (hR.alloc _) hE (xs := [⟨#[99, 97, 115, 101]⟩]) (Own.new wr _ _) 1 rfl (by omega) q hq).mono ?_
      rintro en w4 ⟨rfl, hR2, hb⟩
      have hs4 := (((Kp.refl r wr).alloc _).trans (Kp.of hb)).size
      replace hrowi := hrowi.kp (by omega) (((Kp.refl r _).alloc _).trans (Kp.of hb)) (by omega)
      replace hK := (hK.alloc _).trans (Kp.of hb)
      replace hR := hR2
      clear hb hR2
      clear hq
      cases q with
      | false =>
        rw [if_neg (by simp)] at hm
        obtain ⟨rfl, rfl⟩ := ret_some hm
        obtain ⟨q, hq⟩ : ∃ q, isT 1 [⟨#[100, 101, 102, 97, 117, 108, 116]⟩] (nxt E sl) = q := ⟨_, rfl⟩
        have hq2 : wd [100, 101, 102, 97, 117, 108, 116] (nxt E sl) = q := (isT_wd _ _).symm.trans hq
        rw [hq2] at h12
        clear hq2
        go_wp2_with fail
        refine (pword_as (hR.alloc _) hE (xs := [⟨#[100, 101, 102, 97, 117, 108, 116]⟩]) (Own.new w4 _ _) 1 rfl (by omega) q hq).mono ?_
        rintro en w5 ⟨rfl, hR2, hb⟩
        have hs5 := (((Kp.refl r w4).alloc _).trans (Kp.of hb)).size
        replace hrowi := hrowi.kp (by omega) (((Kp.refl r _).alloc _).trans (Kp.of hb)) (by omega)
        replace hK := (hK.alloc _).trans (Kp.of hb)
        replace hR := hR2
        clear hb hR2
        clear hq
        cases q with
        | false =>
          rw [if_neg (by simp)] at h12
          obtain ⟨rfl, rfl⟩ := ret_some h12
          go_wp2_with fail
          refine (pshut_as hR hE (by omega) ⟨#[125]⟩ h9).mono ?_
          rintro en w6 ⟨⟨_, rfl⟩, hR2, hK2⟩
          have hs6 := (((Kp.refl r w5)).trans hK2).size
          replace hrowi := hrowi.kp (by omega) (((Kp.refl r _)).trans hK2) (by omega)
          replace hK := (hK).trans hK2
          replace hR := hR2
          clear hK2 hR2
          go_wp2
          go_ret
          exact ⟨_, rfl, hrow.ki hrowi (Nat.le_refl _), hR, hK⟩
        | true =>
          rw [if_pos rfl] at h12
          obtain ⟨tk3, s7, h13, h14⟩ := bnd_some h12
          obtain ⟨rfl, rfl⟩ := take_some h13
          obtain ⟨x5, s8, h15, h16⟩ := bnd_some h14
          obtain ⟨rfl, rfl⟩ := ret_some h16
          obtain ⟨k5, tx5, nn5, a5, e5, ht5⟩ := tokIs (nxt E sl)
          clear h12 h13 h14 h16
          go_wp2_with fail
          refine (ptake_as hR hE ht5).mono ?_
          rintro en w6 ⟨rfl, hR2, hK2⟩
          have hs6 := (((Kp.refl r w5)).trans hK2).size
          replace hrowi := hrowi.kp (by omega) (((Kp.refl r _)).trans hK2) (by omega)
          replace hK := (hK).trans hK2
          replace hR := hR2
          clear hK2 hR2
          have hrow0 := hrow.ki hrowi (Nat.le_refl _)
          clear hrow hrowi
          go_wp2_with fail
          refine (HA _ _ _ _ _ _ _ hR hE (by omega) h15).mono ?_
          rintro en wx ⟨k1, a1, b1, n1x, v1, rfl, n1, hR2, hK2⟩
          have hs5 := hK2.size
          have hN2 : NodeIs (wx.alloc (.cells #[.int .u8 k1, .int .i64 a1, .string b1, .int .u64 n1x, v1] 25)) w6.heap.size ⟨19, (nxt E sl).2.2.2.1, [], 0, [x5]⟩ 19 a5 ⟨#[]⟩ 0 (.slice (some ⟨wx.heap.size, 0, none⟩) 1 1) := ⟨rfl, ht5.2.2.2.1, rfl, rfl, Row.one n1 (Nat.le_refl _) hs5⟩
          replace hR := (hR2.alloc (.cells #[.int .u8 k1, .int .i64 a1, .string b1, .int .u64 n1x, v1] 25)).alloc (.cells #[.int .u8 19, .int .i64 a5, .string ⟨#[]⟩, .int .u64 0, .slice (some ⟨wx.heap.size, 0, none⟩) 1 1] 25)
          have hK4 := (hK2.alloc (.cells #[.int .u8 k1, .int .i64 a1, .string b1, .int .u64 n1x, v1] 25)).alloc (.cells #[.int .u8 19, .int .i64 a5, .string ⟨#[]⟩, .int .u64 0, .slice (some ⟨wx.heap.size, 0, none⟩) 1 1] 25)
          replace hK := hK.trans hK4
          have hcs := (hN2.row fun x => x.alloc (.cells #[.int .u8 19, .int .i64 a5, .string ⟨#[]⟩, .int .u64 0, .slice (some ⟨wx.heap.size, 0, none⟩) 1 1] 25)).cells
          have hb := Own.new (wx.alloc (.cells #[.int .u8 k1, .int .i64 a1, .string b1, .int .u64 n1x, v1] 25)) #[.int .u8 19, .int .i64 a5, .string ⟨#[]⟩, .int .u64 0, .slice (some ⟨wx.heap.size, 0, none⟩) 1 1] 25
          rw [World.size_alloc] at hb
          have hal : acc.length + 1 ≤ 1000000000 := by omega
          have hww : w6.heap.size ≤ ((wx.alloc (.cells #[.int .u8 k1, .int .i64 a1, .string b1, .int .u64 n1x, v1] 25)).alloc (.cells #[.int .u8 19, .int .i64 a5, .string ⟨#[]⟩, .int .u64 0, .slice (some ⟨wx.heap.size, 0, none⟩) 1 1] 25)).heap.size := by rw [World.size_alloc, World.size_alloc]; omega
          have hkeep : ∀ (g : Nat) (cur : Array Value), w.heap.size ≤ g → Own w6 g cur 25 → Own ((wx.alloc (.cells #[.int .u8 k1, .int .i64 a1, .string b1, .int .u64 n1x, v1] 25)).alloc (.cells #[.int .u8 19, .int .i64 a5, .string ⟨#[]⟩, .int .u64 0, .slice (some ⟨wx.heap.size, 0, none⟩) 1 1] 25)) g cur 25 := fun g cur hg ho => ho.kp hK4 (by omega)
          have hbs : w.heap.size ≤ w6.heap.size := by omega
          have hwg : ∀ k : Nat, w.heap.size ≤ k → r < k := fun k hk => by omega
          clear hK2 hR2 hK4 hs5 h15 n1 hN2
          go_wp2_with (at_builtin; refine wpList_appN rfl (.tmp 45) (.tmp 51) rfl w.heap.size _ acc rfl w6 hrow0 hkeep [⟨19, (nxt E sl).2.2.2.1, [], 0, [x5]⟩] 1 1 rfl (wx.heap.size + 1) rfl _ hb hcs hal hbs hww ?_; intro v' wy hrow' gy hvb; obtain ⟨aoy, capy, rfl⟩ := hrow'.shape)
          replace hR := hR.grown gy (fun k hk => hwg k (hvb k hk).1)
          replace hK := hK.grown gy (fun k hk => (hvb k hk).1)
          refine (pshut_as hR hE (by omega) ⟨#[125]⟩ h9).mono ?_
          rintro en wz ⟨⟨_, rfl⟩, hR3, hK3⟩
          go_wp2
          go_ret
          have hrow9 := hrow'.kp hK3 hrl
          have hll : (acc ++ [(⟨19, (nxt E sl).2.2.2.1, [], 0, [x5]⟩ : Tree)]).length = acc.length + 1 := by simp
          rw [hll] at hrow9
          exact ⟨_, rfl, hrow9, hR3, hK.trans hK3⟩
      | true =>
        rw [if_pos rfl] at hm
        obtain ⟨tk3, s7, h13, h14⟩ := bnd_some hm
        obtain ⟨rfl, rfl⟩ := take_some h13
        obtain ⟨lc, s8, h15, h16⟩ := bnd_some h14
        obtain ⟨x5, s9, h17, h18⟩ := bnd_some h16
        obtain ⟨k5, tx5, nn5, a5, e5, ht5⟩ := tokIs (nxt E sl)
        clear hm h13 h14 h16
        go_wp2_with fail
        refine (ptake_as hR hE ht5).mono ?_
        rintro en w5 ⟨rfl, hR2, hK2⟩
        have hs5 := (((Kp.refl r w4)).trans hK2).size
        replace hrowi := hrowi.kp (by omega) (((Kp.refl r _)).trans hK2) (by omega)
        replace hK := (hK).trans hK2
        replace hR := hR2
        clear hK2 hR2
        go_wp2_with fail
        refine (plist_as fn_constant pconstant_as f hf _ _ _ _ _ _ _ hR hE (by omega) h15).mono ?_
        rintro en w6 ⟨v2, rfl, hl, hR2, hK2⟩
        have hs6 := (((Kp.refl r w5)).trans hK2).size
        replace hrowi := hrowi.kp (by omega) (((Kp.refl r _)).trans hK2) (by omega)
        replace hK := (hK).trans hK2
        replace hR := hR2
        clear hK2 hR2
        have hli := KI.refl w5.heap.size w6.heap.size w6
        have hll := listP_len h15
        obtain ⟨aol, capl, rfl⟩ := hl.shape
        clear h15
        go_upto_region 5 with fail
        have hzn := hR.lt
        have hkn := hK.size
        have n := Own.new w6 #[.int .u8 18, .int .i64 a5, .string ⟨#[]⟩, .int .u64 0, .slice aol lc.length capl] 25
        replace hR := hR.alloc (.cells #[.int .u8 18, .int .i64 a5, .string ⟨#[]⟩, .int .u64 0, .slice aol lc.length capl] 25)
        replace hK := hK.alloc (.cells #[.int .u8 18, .int .i64 a5, .string ⟨#[]⟩, .int .u64 0, .slice aol lc.length capl] 25)
        replace hrowi := hrowi.alloc (by omega) (.cells #[.int .u8 18, .int .i64 a5, .string ⟨#[]⟩, .int .u64 0, .slice aol lc.length capl] 25)
        replace hli := hli.alloc (by omega) (.cells #[.int .u8 18, .int .i64 a5, .string ⟨#[]⟩, .int .u64 0, .slice aol lc.length capl] 25)
        generalize hw : w6.alloc (.cells #[.int .u8 18, .int .i64 a5, .string ⟨#[]⟩, .int .u64 0, .slice aol lc.length capl] 25) = w7 at hR hK n hrowi hli ⊢
        clear hw
        have hs7 := n.lt
        have hnb := n.lt
        obtain ⟨n0, n1, n2, n3, n4, nf⟩ := n.five
        have hrow2 := hl.q_ki (x := w6.heap.size) hli (Nat.le_refl _) (by omega)
        go_wp2_with fail
        have hfx := fn_arm
        go_region_law (first | (refine step_call1 (by rfl) 133 (.tmp 26) 58 (by rfl) hfx _ (by rfl) (HA _ r E (d + 1) _ x5 s9 hR.drew hE (by omega) h17) ?_; rintro en wa7 ⟨k1, a1, b1, n1x, v1, rfl, hN, hR7, hK7⟩; refine ⟨_, rfl, ?_⟩; have n7 := n.drew.kp hK7 (by omega); obtain ⟨m0, m1, m2, m3, m4, mf⟩ := n7.five; have hs7 := hK7.size; rw [World.size_drew] at hs7; have hl7 := n7.lt) | (refine step_appQ (by rfl) (.tmp 25) (.tmp 28) (by rfl) (fun g => w5.heap.size ≤ g ∧ g ≠ w6.heap.size) _ lc (by rfl) _ (hrow2.on fun g hg cur ho => ho.drew) (fun g cur hg ho => ho.kp (hK7.alloc _) (by omega)) x5 k1 a1 b1 n1x v1 wa7.heap.size (by rfl) (Own.new wa7 _ _) ((hN.q.imp fun g g1 g2 => ⟨g2, by rw [World.size_drew] at g2; exact ⟨by omega, by omega⟩⟩).on fun g hg cur ho => ho.alloc _) (by simp; omega) (by rw [World.size_drew, World.size_alloc]; omega) (by rw [World.size_alloc]; exact ⟨by omega, by omega⟩) ?_; intro ao8 cap8 wa8 hrow8 gz8 hvb8; rw [World.size_drew] at hvb8; have n8 := (n7.alloc _).grown gz8 (fun e => (hvb8 _ e.symm).1.2 rfl); obtain ⟨p0, p1, p2, p3, p4, pf⟩ := n8.five))
        all_goals
          have hll9 : (lc ++ [x5]).length = lc.length + 1 := by simp
          rw [hll9] at hrow8
          have hR9 := ((hR7.alloc (.cells #[.int .u8 k1, .int .i64 a1, .string b1, .int .u64 n1x, v1] 25)).grown gz8 (fun k hk => by have := (hvb8 k hk).1; omega)).set (i := 4) (g := w6.heap.size) (by omega) (.slice ao8 (lc.length + 1) cap8)
          have hK9 := (((hK.drew.trans (hK7.alloc (.cells #[.int .u8 k1, .int .i64 a1, .string b1, .int .u64 n1x, v1] 25))).grown gz8 (fun k hk => by have := (hvb8 k hk).1; omega)).set (g := w6.heap.size) (.inl (by omega)) 4 (.slice ao8 (lc.length + 1) cap8))
          have hrowi9 := ((((hrowi.drew).kp (by rw [World.size_drew]; omega) hK7 (by omega)).alloc (by omega) (.cells #[.int .u8 k1, .int .i64 a1, .string b1, .int .u64 n1x, v1] 25)).grownO (by rw [World.size_alloc]; omega) gz8 (fun k hk => .inr (by have := (hvb8 k hk).1; omega))).set (k := w6.heap.size) (i := 4) (by omega) (.slice ao8 (lc.length + 1) cap8)
          have n9 := n8.set 4 (.slice ao8 (lc.length + 1) cap8)
          have hrow9 : Row _ w5.heap.size _ _ := RowQ.row ((hrow8.on fun g hg cur ho => ho.other (g' := w6.heap.size) (i := 4) hg.2 (.slice ao8 (lc.length + 1) cap8)).imp fun g _ h => h.1)
          have hs8 := gz8.size
          rw [World.size_alloc] at hs8
          have hs9 : wa7.heap.size < (wa8.setCell ⟨w6.heap.size, 4, none⟩ (.slice ao8 (lc.length + 1) cap8)).heap.size := by rw [World.size_setCell]; omega
          generalize hw : wa8.setCell ⟨w6.heap.size, 4, none⟩ (.slice ao8 (lc.length + 1) cap8) = wa9 at hR9 hK9 hrow9 hs9 n9 hrowi9 ⊢
          clear hw hrow8 gz8 hvb8 n8 p0 p1 p2 p3 p4 pf hN hR7 hK7 n7 m0 m1 m2 m3 m4 mf hrow2 n0 n1 n2 n3 n4 nf
          replace hR := hR9
          replace hK := hK9
          clear hR9 hK9
          replace n : Own wa9 w6.heap.size #[.int .u8 18, .int .i64 a5, .string ⟨#[]⟩, .int .u64 0, .slice ao8 (lc.length + 1) cap8] 25 := n9
          clear n9
          replace hrowi := hrowi9
          clear hrowi9
          clear hl hli
          have hl := hrow9
          clear hrow9
          have hli := KI.refl w5.heap.size wa9.heap.size wa9
          obtain ⟨n0, n1, n2, n3, n4, nf⟩ := n.five
          have hN2 : NodeIs wa9 w5.heap.size ⟨18, (nxt E sl).2.2.2.1, [], 0, lc ++ [x5]⟩ 18 a5 ⟨#[]⟩ 0 (.slice ao8 (lc.length + 1) cap8) := ⟨rfl, ht5.2.2.2.1, rfl, rfl, hl⟩
          have hcs := ((hN2.mono (show wr.heap.size ≤ w5.heap.size by omega)).row fun x => x.alloc (.cells #[.int .u8 18, .int .i64 a5, .string ⟨#[]⟩, .int .u64 0, .slice ao8 (lc.length + 1) cap8] 25)).cells
          have hb := Own.new wa9 #[.int .u8 18, .int .i64 a5, .string ⟨#[]⟩, .int .u64 0, .slice ao8 (lc.length + 1) cap8] 25
          have hal : acc.length + 1 ≤ 1000000000 := by omega
          have hww : wr.heap.size ≤ (wa9.alloc (.cells #[.int .u8 18, .int .i64 a5, .string ⟨#[]⟩, .int .u64 0, .slice ao8 (lc.length + 1) cap8] 25)).heap.size := by rw [World.size_alloc]; omega
          have hkeep : ∀ (g : Nat) (cur : Array Value), w.heap.size ≤ g → Own wr g cur 25 → Own (wa9.alloc (.cells #[.int .u8 18, .int .i64 a5, .string ⟨#[]⟩, .int .u64 0, .slice ao8 (lc.length + 1) cap8] 25)) g cur 25 := fun g cur hg ho => Own.alloc (show Own wa9 g cur 25 from (hrowi g hg ho.lt).trans ho) _
          have hwg : ∀ k : Nat, w.heap.size ≤ k → r < k := fun k hk => by omega
          replace hR := hR.alloc (.cells #[.int .u8 18, .int .i64 a5, .string ⟨#[]⟩, .int .u64 0, .slice ao8 (lc.length + 1) cap8] 25)
          replace hK := hK.alloc (.cells #[.int .u8 18, .int .i64 a5, .string ⟨#[]⟩, .int .u64 0, .slice ao8 (lc.length + 1) cap8] 25)
          clear hN2 hl hli n
          go_wp2_with (at_builtin; refine wpList_appN rfl (.tmp 31) (.tmp 33) rfl w.heap.size _ acc rfl wr hrow hkeep [⟨18, (nxt E sl).2.2.2.1, [], 0, lc ++ [x5]⟩] 1 1 rfl wa9.heap.size rfl _ hb hcs hal hw0 hww ?_; intro v' wy hrow' gy hvb)
          have hR6 := hR.grown gy (fun k hk => hwg k (hvb k hk).1)
          have hK6 := hK.grown gy (fun k hk => (hvb k hk).1)
          go_roundg gk
          case rel => exact ⟨acc ++ [⟨18, (nxt E sl).2.2.2.1, [], 0, lc ++ [x5]⟩], s9, h18, hR6, hrow', hK6, by rw [List.length_append]; simp; omega⟩
          case measure => omega
end Go.Proofs.YtmhnbklchnnbaaaGreatDoor
