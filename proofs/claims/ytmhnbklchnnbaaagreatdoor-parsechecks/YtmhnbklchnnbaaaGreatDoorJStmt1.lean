import Derived.Test.YtmhnbklchnnbaaaGreatDoorJPart7
set_option maxHeartbeats 1000000
set_option maxRecDepth 100000
namespace Go.Proofs.YtmhnbklchnnbaaaGreatDoor
open Go.RowKit
set_option linter.unusedVariables false
theorem pblock_as {stmts : P (List Tree)} {c : Nat} (HS : ListAs 85 stmts c) : PartAs 70 (blockP stmts) (c + 1) := by
  intro w r E d s t s' hR hE hd hm
  have hrl := hR.lt
  have hK := Kp.refl r w
  obtain ⟨y, s1, h1, h2⟩ := bnd_some hm
  obtain ⟨rfl, rfl⟩ := ret_some h2
  obtain ⟨tk, s2, h3, h4⟩ := bnd_some h1
  obtain ⟨l, s3, h5, h6⟩ := bnd_some h4
  obtain ⟨tk2, s4, h7, h8⟩ := bnd_some h6
  obtain ⟨rfl, rfl⟩ := ret_some h8
  unfold deeper at h5
  obtain ⟨k, tx, nn, a, e, ht⟩ := tokIs tk
  clear hm h1 h2 h4 h6 h8
  go_enter Tryz.func70, Tryz.ntmps70
  go_upto_region 1 with fail
  have hzo := hR.lt
  have hko := hK.size
  have o := Own.new w #[.int .u8 0, .int .i64 0, .string ⟨#[]⟩, .int .u64 0, .slice none 0 0] 25
  replace hR := hR.alloc (.cells #[.int .u8 0, .int .i64 0, .string ⟨#[]⟩, .int .u64 0, .slice none 0 0] 25)
  replace hK := hK.alloc (.cells #[.int .u8 0, .int .i64 0, .string ⟨#[]⟩, .int .u64 0, .slice none 0 0] 25)
  generalize hw : w.alloc (.cells #[.int .u8 0, .int .i64 0, .string ⟨#[]⟩, .int .u64 0, .slice none 0 0] 25) = w1 at hR hK o ⊢
  clear hw
  have hs1 := o.lt
  go_wp2_with fail
  refine (popen_as hR hE (by omega) ⟨#[123]⟩ h3 ht).mono ?_
  rintro en w2 ⟨rfl, hR2, hK2⟩
  have hs2 := (((Kp.refl r w1)).trans hK2).size
  replace o := (o).kp hK2 (by omega)
  replace hK := (hK).trans hK2
  replace hR := hR2
  clear hK2 hR2
  go_upto_region 2 with fail
  have hzm1 := hR.lt
  have hkm1 := hK.size
  have m1 := Own.new w2 #[.int .u8 10, .int .i64 a, .string ⟨#[]⟩, .int .u64 0, .slice none 0 0] 25
  replace hR := hR.alloc (.cells #[.int .u8 10, .int .i64 a, .string ⟨#[]⟩, .int .u64 0, .slice none 0 0] 25)
  replace hK := hK.alloc (.cells #[.int .u8 10, .int .i64 a, .string ⟨#[]⟩, .int .u64 0, .slice none 0 0] 25)
  replace o := o.alloc (.cells #[.int .u8 10, .int .i64 a, .string ⟨#[]⟩, .int .u64 0, .slice none 0 0] 25)
  generalize hw : w2.alloc (.cells #[.int .u8 10, .int .i64 a, .string ⟨#[]⟩, .int .u64 0, .slice none 0 0] 25) = w3 at hR hK m1 o ⊢
  clear hw
  have hs3 := m1.lt
  go_wp2_with fail
  refine (HS _ _ _ _ _ _ _ hR hE (by omega) h5).mono ?_
  rintro en w4 ⟨v2, rfl, hrow, hR2, hK2⟩
  have hs4 := (((Kp.refl r w3)).trans hK2).size
  replace o := (o).kp hK2 (by omega)
  replace m1 := (m1).kp hK2 (by omega)
  replace hK := (hK).trans hK2
  replace hR := hR2
  clear hK2 hR2
  have hrowi := KI.refl w3.heap.size w4.heap.size w4
  obtain ⟨ao, cap, rfl⟩ := hrow.shape
  go_upto_region 3 with (first | (refine wpList_put1nodes rfl (.tmp 10) (.tmp 9) rfl rfl w2.heap.size 4 rfl rfl m1 (by simp) ?_; intro wq0 m1q0 gq0))
  have hs5 := gq0.size
  replace o := o.grown gq0 (some_ne (by omega))
  replace hrowi := hrowi.grown (by omega) gq0 (by omega)
  replace hR := hR.grown gq0 (some_lt (by omega))
  replace hK := hK.grown gq0 (some_le (by omega))
  replace m1 : Own wq0 w2.heap.size #[.int .u8 10, .int .i64 a, .string ⟨#[]⟩, .int .u64 0, .slice ao l.length cap] 25 := m1q0
  clear m1q0 gq0
  generalize hw : wq0 = w5 at *
  clear hw
  go_wp2_with fail
  refine (pshut_as hR hE (by omega) ⟨#[125]⟩ h7).mono ?_
  rintro en w6 ⟨⟨_, rfl⟩, hR2, hK2⟩
  have hs6 := (((Kp.refl r w5)).trans hK2).size
  replace o := (o).kp hK2 (by omega)
  replace m1 := (m1).kp hK2 (by omega)
  replace hrowi := hrowi.kp (by omega) (((Kp.refl r _)).trans hK2) (by omega)
  replace hK := (hK).trans hK2
  replace hR := hR2
  clear hK2 hR2
  obtain ⟨m10, m11, m12, m13, m14, m1f⟩ := m1.five
  go_wp2_with (refine wpList_put5 rfl (.tmp 2) (.tmp 13) rfl rfl w.heap.size rfl rfl (o) ⟨rfl, rfl, rfl, rfl, rfl⟩ ?_; intro wz oz gz)
  refine bodyPost_cell1 (t := 25) rfl rfl rfl oz Tryz.underlying25 rfl (by kernel_rfl) ?_
  exact ⟨_, _, _, _, _, rfl, ⟨rfl, ht.2.2.2.1, rfl, rfl, ((hrow.ki (hrowi.grown (by omega) gz (by omega)) (Nat.le_refl _)).mono (by omega))⟩, (hR).grown gz (some_lt (by omega)), (hK).grown gz (some_le (by omega))⟩
theorem parm_as {stmts : P (List Tree)} {c : Nat} (HS : ListAs 85 stmts c) : PartAs 133 (armP stmts) c := by
  intro w r E d s t s' hR hE hd hm
  have hrl := hR.lt
  have hK := Kp.refl r w
  obtain ⟨tk, s1, h1, h2⟩ := bnd_some hm
  obtain ⟨l, s2, h3, h4⟩ := bnd_some h2
  obtain ⟨rfl, rfl⟩ := ret_some h4
  obtain ⟨q, hq⟩ : ∃ q, isT 4 [⟨#[58]⟩] (nxt E s) = q := ⟨_, rfl⟩
  have hq2 : sg [58] (nxt E s) = q := (isT_sg _ _).symm.trans hq
  have hn : needT q E d s = some (tk, s1) := by rw [← hq2]; exact h1
  obtain ⟨k, tx, nn, a, e, ht⟩ := tokIs tk
  clear hm h1 h2 h4 hq2
  go_enter Tryz.func133, Tryz.ntmps133
  go_upto_region 1 with fail
  have hzo := hR.lt
  have hko := hK.size
  have o := Own.new w #[.int .u8 0, .int .i64 0, .string ⟨#[]⟩, .int .u64 0, .slice none 0 0] 25
  replace hR := hR.alloc (.cells #[.int .u8 0, .int .i64 0, .string ⟨#[]⟩, .int .u64 0, .slice none 0 0] 25)
  replace hK := hK.alloc (.cells #[.int .u8 0, .int .i64 0, .string ⟨#[]⟩, .int .u64 0, .slice none 0 0] 25)
  generalize hw : w.alloc (.cells #[.int .u8 0, .int .i64 0, .string ⟨#[]⟩, .int .u64 0, .slice none 0 0] 25) = w1 at hR hK o ⊢
  clear hw
  have hs1 := o.lt
  go_wp2_with fail
  refine (psign_as (hR.alloc _) hE (xs := [⟨#[58]⟩]) (Own.new w1 _ _) 1 rfl (by omega) q hq).mono ?_
  rintro en w2 ⟨rfl, hR2, hb⟩
  have hs2 := (((Kp.refl r w1).alloc _).trans (Kp.of hb)).size
  replace o := (o.alloc _).below hb
  replace hK := (hK.alloc _).trans (Kp.of hb)
  replace hR := hR2
  clear hb hR2
  go_wp2_with fail
  refine (pneed_as hR hE q hn ht).mono ?_
  rintro en w3 ⟨rfl, hR2, hK2⟩
  have hs3 := (((Kp.refl r w2)).trans hK2).size
  replace o := (o).kp hK2 (by omega)
  replace hK := (hK).trans hK2
  replace hR := hR2
  clear hK2 hR2
  clear hq hn
  go_upto_region 2 with fail
  have hzm1 := hR.lt
  have hkm1 := hK.size
  have m1 := Own.new w3 #[.int .u8 10, .int .i64 a, .string ⟨#[]⟩, .int .u64 0, .slice none 0 0] 25
  replace hR := hR.alloc (.cells #[.int .u8 10, .int .i64 a, .string ⟨#[]⟩, .int .u64 0, .slice none 0 0] 25)
  replace hK := hK.alloc (.cells #[.int .u8 10, .int .i64 a, .string ⟨#[]⟩, .int .u64 0, .slice none 0 0] 25)
  replace o := o.alloc (.cells #[.int .u8 10, .int .i64 a, .string ⟨#[]⟩, .int .u64 0, .slice none 0 0] 25)
  generalize hw : w3.alloc (.cells #[.int .u8 10, .int .i64 a, .string ⟨#[]⟩, .int .u64 0, .slice none 0 0] 25) = w4 at hR hK m1 o ⊢
  clear hw
  have hs4 := m1.lt
  go_wp2_with fail
  refine (HS _ _ _ _ _ _ _ hR hE hd h3).mono ?_
  rintro en w5 ⟨v2, rfl, hrow, hR2, hK2⟩
  have hs5 := (((Kp.refl r w4)).trans hK2).size
  replace o := (o).kp hK2 (by omega)
  replace m1 := (m1).kp hK2 (by omega)
  replace hK := (hK).trans hK2
  replace hR := hR2
  clear hK2 hR2
  have hrowi := KI.refl w4.heap.size w5.heap.size w5
  obtain ⟨ao, cap, rfl⟩ := hrow.shape
  go_upto_region 3 with (first | (refine wpList_put1nodes rfl (.tmp 15) (.tmp 14) rfl rfl w3.heap.size 4 rfl rfl m1 (by simp) ?_; intro wq0 m1q0 gq0))
  have hs6 := gq0.size
  replace o := o.grown gq0 (some_ne (by omega))
  replace hrowi := hrowi.grown (by omega) gq0 (by omega)
  replace hR := hR.grown gq0 (some_lt (by omega))
  replace hK := hK.grown gq0 (some_le (by omega))
  replace m1 : Own wq0 w3.heap.size #[.int .u8 10, .int .i64 a, .string ⟨#[]⟩, .int .u64 0, .slice ao l.length cap] 25 := m1q0
  clear m1q0 gq0
  generalize hw : wq0 = w6 at *
  clear hw
  obtain ⟨m10, m11, m12, m13, m14, m1f⟩ := m1.five
  go_wp2_with (refine wpList_put5 rfl (.tmp 2) (.tmp 16) rfl rfl w.heap.size rfl rfl (o) ⟨rfl, rfl, rfl, rfl, rfl⟩ ?_; intro wz oz gz)
  refine bodyPost_cell1 (t := 25) rfl rfl rfl oz Tryz.underlying25 rfl (by kernel_rfl) ?_
  exact ⟨_, _, _, _, _, rfl, ⟨rfl, ht.2.2.2.1, rfl, rfl, ((hrow.ki (hrowi.grown (by omega) gz (by omega)) (Nat.le_refl _)).mono (by omega))⟩, (hR).grown gz (some_lt (by omega)), (hK).grown gz (some_le (by omega))⟩
theorem paway_as (kd : Int) (kk : Nat) (hkd : kd = kk) : ∀ (w : World) (r E d : Nat) (s : St) (t : Tree) (s' : St), RdAt w r E d s → E ≤ 1048576 → d ≤ 1000000000 → awayP kk E d s = some (t, s') →
    Calls Tryz.prog 121 #[.pointer (some ⟨r, 0, none⟩), .int .u8 kd] w (NodeRet w r E d t s') := by
  subst hkd
  intro w r E d s t s' hR hE hd hm
  have hrl := hR.lt
  have hK := Kp.refl r w
  obtain ⟨tk, s1, h1, h2⟩ := bnd_some hm
  obtain ⟨rfl, rfl⟩ := take_some h1
  replace h2 := look_some h2
  obtain ⟨q, hq⟩ : ∃ q, nm (nxt E (popS s)) = q := ⟨_, rfl⟩
  rw [hq] at h2
  obtain ⟨k, tx, nn, a, e, ht⟩ := tokIs (nxt E s)
  clear hm h1
  go_enter Tryz.func121, Tryz.ntmps121
  go_upto_region 1 with fail
  have hzo := hR.lt
  have hko := hK.size
  have o := Own.new w #[.int .u8 0, .int .i64 0, .string ⟨#[]⟩, .int .u64 0, .slice none 0 0] 25
  replace hR := hR.alloc (.cells #[.int .u8 0, .int .i64 0, .string ⟨#[]⟩, .int .u64 0, .slice none 0 0] 25)
  replace hK := hK.alloc (.cells #[.int .u8 0, .int .i64 0, .string ⟨#[]⟩, .int .u64 0, .slice none 0 0] 25)
  generalize hw : w.alloc (.cells #[.int .u8 0, .int .i64 0, .string ⟨#[]⟩, .int .u64 0, .slice none 0 0] 25) = w1 at hR hK o ⊢
  clear hw
  have hs1 := o.lt
  go_wp2_with fail
  refine (ptake_as hR hE ht).mono ?_
  rintro en w2 ⟨rfl, hR2, hK2⟩
  have hs2 := (((Kp.refl r w1)).trans hK2).size
  replace o := (o).kp hK2 (by omega)
  replace hK := (hK).trans hK2
  replace hR := hR2
  clear hK2 hR2
  go_upto_region 2 with fail
  have hzm1 := hR.lt
  have hkm1 := hK.size
  have m1 := Own.new w2 #[.int .u8 (kk : Int), .int .i64 a, .string ⟨#[]⟩, .int .u64 0, .slice none 0 0] 25
  replace hR := hR.alloc (.cells #[.int .u8 (kk : Int), .int .i64 a, .string ⟨#[]⟩, .int .u64 0, .slice none 0 0] 25)
  replace hK := hK.alloc (.cells #[.int .u8 (kk : Int), .int .i64 a, .string ⟨#[]⟩, .int .u64 0, .slice none 0 0] 25)
  replace o := o.alloc (.cells #[.int .u8 (kk : Int), .int .i64 a, .string ⟨#[]⟩, .int .u64 0, .slice none 0 0] 25)
  generalize hw : w2.alloc (.cells #[.int .u8 (kk : Int), .int .i64 a, .string ⟨#[]⟩, .int .u64 0, .slice none 0 0] 25) = w3 at hR hK m1 o ⊢
  clear hw
  have hs3 := m1.lt
  go_wp2_with fail
  refine (pname_as hR hE q hq).mono ?_
  rintro en w4 ⟨rfl, hR2, hb⟩
  have hs4 := (((Kp.refl r w3)).trans (Kp.of hb)).size
  replace o := (o).below hb
  replace m1 := (m1).below hb
  replace hK := (hK).trans (Kp.of hb)
  replace hR := hR2
  clear hb hR2
  clear hq
  cases q with
  | false =>
    rw [if_neg (by simp)] at h2
    obtain ⟨rfl, rfl⟩ := ret_some h2
    obtain ⟨m10, m11, m12, m13, m14, m1f⟩ := m1.five
    go_wp2_with (refine wpList_put5 rfl (.tmp 4) (.tmp 23) rfl rfl w.heap.size rfl rfl (o) ⟨rfl, rfl, rfl, rfl, rfl⟩ ?_; intro wz oz gz)
    refine bodyPost_cell1 (t := 25) rfl rfl rfl oz Tryz.underlying25 rfl (by kernel_rfl) ?_
    exact ⟨_, _, _, _, _, rfl, ⟨rfl, ht.2.2.2.1, rfl, rfl, Row.nil _ _⟩, (hR).grown gz (some_lt (by omega)), (hK).grown gz (some_le (by omega))⟩
  | true =>
    rw [if_pos rfl] at h2
    obtain ⟨tk2, s2, h3, h4⟩ := bnd_some h2
    obtain ⟨rfl, rfl⟩ := take_some h3
    obtain ⟨rfl, rfl⟩ := ret_some h4
    obtain ⟨k', tx', nn', a', e', ht'⟩ := tokIs (nxt E (popS s))
    clear h2 h3 h4
    go_wp2_with fail
    refine (ptake_as hR hE ht').mono ?_
    rintro en w5 ⟨rfl, hR2, hK2⟩
    have hs5 := (((Kp.refl r w4)).trans hK2).size
    replace o := (o).kp hK2 (by omega)
    replace m1 := (m1).kp hK2 (by omega)
    replace hK := (hK).trans hK2
    replace hR := hR2
    clear hK2 hR2
    go_upto_region 4 with (first | (refine wpList_put1str rfl (.tmp 22) (.tmp 21) rfl rfl w2.heap.size 2 rfl rfl m1 (by simp) ?_; intro wq0 m1q0 gq0))
    have hs6 := gq0.size
    replace o := o.grown gq0 (some_ne (by omega))
    replace hR := hR.grown gq0 (some_lt (by omega))
    replace hK := hK.grown gq0 (some_le (by omega))
    replace m1 : Own wq0 w2.heap.size #[.int .u8 (kk : Int), .int .i64 a, .string tx', .int .u64 0, .slice none 0 0] 25 := m1q0
    clear m1q0 gq0
    generalize hw : wq0 = w6 at *
    clear hw
    obtain ⟨m10, m11, m12, m13, m14, m1f⟩ := m1.five
    go_wp2_with (refine wpList_put5 rfl (.tmp 4) (.tmp 23) rfl rfl w.heap.size rfl rfl (o) ⟨rfl, rfl, rfl, rfl, rfl⟩ ?_; intro wz oz gz)
    refine bodyPost_cell1 (t := 25) rfl rfl rfl oz Tryz.underlying25 rfl (by kernel_rfl) ?_
    exact ⟨_, _, _, _, _, rfl, ⟨rfl, ht.2.2.2.1, ht'.2.1, rfl, Row.nil _ _⟩, (hR).grown gz (some_lt (by omega)), (hK).grown gz (some_le (by omega))⟩
theorem punless_as (x : ByteArray) {fn : Nat} {m : P Tree} {c : Nat} (hfn : FnIs fn) (HP : PartAs fn m c) : ∀ (w : World) (r E d : Nat) (s : St) (t : Tree) (s' : St), RdAt w r E d s → E ≤ 1048576 → d + c ≤ 1000000000 → unlessP (bytesN x) m E d s = some (t, s') →
    Calls Tryz.prog 130 #[.pointer (some ⟨r, 0, none⟩), .string x, .func (.func fn) #[] #[]] w (NodeRet w r E d t s') := by
  intro w r E d s t s' hR hE hd hm
  have hrl := hR.lt
  have hK := Kp.refl r w
  replace hm := look_some hm
  obtain ⟨q, hq⟩ : ∃ q, isT 4 [x] (nxt E s) = q := ⟨_, rfl⟩
  have hq2 : sg (bytesN x) (nxt E s) = q := (isT_sg _ _).symm.trans hq
  rw [hq2] at hm
  obtain ⟨k, tx, nn, a, e, ht⟩ := tokIs (nxt E s)
  have hfn2 : ∀ (a : Array Value) (w : World), (callFunc fn a).run Tryz.prog w = .ok (.enter fn a) w := hfn
  clear hq2
  go_enter Tryz.func130, Tryz.ntmps130
  go_upto_region 1 with fail
  have hzo := hR.lt
  have hko := hK.size
  have o := Own.new w #[.int .u8 0, .int .i64 0, .string ⟨#[]⟩, .int .u64 0, .slice none 0 0] 25
  replace hR := hR.alloc (.cells #[.int .u8 0, .int .i64 0, .string ⟨#[]⟩, .int .u64 0, .slice none 0 0] 25)
  replace hK := hK.alloc (.cells #[.int .u8 0, .int .i64 0, .string ⟨#[]⟩, .int .u64 0, .slice none 0 0] 25)
  generalize hw : w.alloc (.cells #[.int .u8 0, .int .i64 0, .string ⟨#[]⟩, .int .u64 0, .slice none 0 0] 25) = w1 at hR hK o ⊢
  clear hw
  have hs1 := o.lt
  go_wp2_with fail
  refine (psign_as (hR.alloc _) hE (xs := [x]) (Own.new w1 _ _) 1 rfl (by omega) q hq).mono ?_
  rintro en w2 ⟨rfl, hR2, hb⟩
  have hs2 := (((Kp.refl r w1).alloc _).trans (Kp.of hb)).size
  replace o := (o.alloc _).below hb
  replace hK := (hK.alloc _).trans (Kp.of hb)
  replace hR := hR2
  clear hb hR2
  clear hq
  cases q with
  | false =>
    rw [if_neg (by simp)] at hm
    go_wp2_with fail
    refine (HP _ _ _ _ _ _ _ hR hE hd hm).mono ?_
    rintro en w3 ⟨k1, a1, b1, n1x, v1, rfl, n1, hR2, hK2⟩
    have hs3 := (((Kp.refl r w2)).trans hK2).size
    replace o := (o).kp hK2 (by omega)
    replace hK := (hK).trans hK2
    replace hR := hR2
    clear hK2 hR2
    have n1i := KI.refl w2.heap.size w3.heap.size w3
    go_wp2_with (refine wpList_put5 rfl (.tmp 6) (.tmp 21) rfl rfl w.heap.size rfl rfl (o) ⟨rfl, rfl, rfl, rfl, n1.2.2.2.2.one1⟩ ?_; intro wz oz gz)
    refine bodyPost_cell1 (t := 25) rfl rfl rfl oz Tryz.underlying25 rfl (by kernel_rfl) ?_
    exact ⟨_, _, _, _, _, rfl, (n1.ki (n1i.grown (by omega) gz (by omega)) (Nat.le_refl _)).mono (by omega), (hR).grown gz (some_lt (by omega)), (hK).grown gz (some_le (by omega))⟩
  | true =>
    rw [if_pos rfl] at hm
    obtain ⟨rfl, rfl⟩ := ret_some hm
    go_wp2_with fail
    refine (pnext_as hR hE ht).mono ?_
    rintro en w3 ⟨rfl, hb⟩
    have hR2 := hR.below hb
    have hs3 := (((Kp.refl r w2)).trans (Kp.of hb)).size
    replace o := (o).below hb
    replace hK := (hK).trans (Kp.of hb)
    replace hR := hR2
    clear hb hR2
    go_wp2_with (refine wpList_put5 rfl (.tmp 6) (.tmp 18) rfl rfl w.heap.size rfl rfl (o) ⟨rfl, rfl, rfl, rfl, rfl⟩ ?_; intro wz oz gz)
    refine bodyPost_cell1 (t := 25) rfl rfl rfl oz Tryz.underlying25 rfl (by kernel_rfl) ?_
    exact ⟨_, _, _, _, _, rfl, ⟨rfl, ht.2.2.2.1, rfl, rfl, Row.nil _ _⟩, (hR).grown gz (some_lt (by omega)), (hK).grown gz (some_le (by omega))⟩
def StmtsRel (w : World) (r E d : Nat) (m : P Tree) (ts : List Tree) (s' : St) (f : Nat) (v : Value) (wr : World) : Prop :=
  ∃ acc sl, stmtsL m f acc E d sl = some (ts, s') ∧ RdAt wr r E d sl ∧ Row wr w.heap.size v acc ∧ Kp r w wr ∧ acc.length + f ≤ 900000000
theorem isT_ends (t : Tok) : isT 1 [⟨#[99, 97, 115, 101]⟩, ⟨#[100, 101, 102, 97, 117, 108, 116]⟩] t = (wd [99, 97, 115, 101] t || wd [100, 101, 102, 97, 117, 108, 116] t) := by
  simp only [isT, List.any_cons, List.any_nil, wd, Bool.or_false, Bool.and_or_distrib_left]
  rfl
theorem isT_turnW (t : Tok) : isT 1 [⟨#[119, 104, 105, 108, 101]⟩, ⟨#[102, 111, 114]⟩, ⟨#[115, 119, 105, 116, 99, 104]⟩] t = turnW t := by
  simp only [isT, List.any_cons, List.any_nil, turnW, wd, Bool.or_false, Bool.and_or_distrib_left, Bool.or_assoc]
  rfl
def TurnAs (m : List Nat → P Tree) (c : Nat) : Prop := ∀ (lb : List Nat) (b : ByteArray), b = strN lb → ∀ (w : World) (r E d : Nat) (s : St) (t : Tree) (s' : St), RdAt w r E d s → E ≤ 1048576 → d + c ≤ 1000000000 → m lb E d s = some (t, s') → Calls Tryz.prog 108 #[.pointer (some ⟨r, 0, none⟩), .string b] w (NodeRet w r E d t s')
theorem pstmts_as {m : P Tree} {c : Nat} (HP : PartAs 97 m c) (f : Nat) (hf : f ≤ 100000000) : ListAs 85 (stmtsL m f []) c := by
  intro w r E d s ts s' hR hE hd hm
  have hrl := hR.lt
  have hK := Kp.refl r w
  have hrow : Row w w.heap.size (.slice none 0 0) [] := Row.nil _ _
  go_enter Tryz.func85, Tryz.ntmps85
  go_wp2_with fail
  go_loopg [3] f (fun g v wr => StmtsRel w r E d m ts s' g v wr)
  case atStart => exact ⟨[], s, hm, hR, hrow, hK, by simp; omega⟩
  case round =>
    clear hR hK hrow hm
    obtain ⟨acc, sl, hm, hR, hrow, hK, hlen⟩ := hrel
    cases gk with
    | zero => cases hm
    | succ gk =>
      unfold stmtsL at hm
      obtain ⟨ao, cap, rfl⟩ := hrow.shape
      have hw0 := hK.size
      by_cases hwr : sl.wrong = 0
      · obtain ⟨q, hq⟩ : ∃ q, isT 4 [⟨#[125]⟩] (nxt E sl) = q := ⟨_, rfl⟩
        have hq2 : sg [125] (nxt E sl) = q := (isT_sg _ _).symm.trans hq
        obtain ⟨q2, hq3⟩ : ∃ q, isT 1 [⟨#[99, 97, 115, 101]⟩, ⟨#[100, 101, 102, 97, 117, 108, 116]⟩] (nxt E sl) = q := ⟨_, rfl⟩
        have hq4 : (wd [99, 97, 115, 101] (nxt E sl) || wd [100, 101, 102, 97, 117, 108, 116] (nxt E sl)) = q2 := (isT_ends _).symm.trans hq3
        rw [hq2, hq4, hwr] at hm
        have hrd := hR
        obtain ⟨rv, r1, r2⟩ := hrd
        obtain ⟨c0, c1, c2, c3, c4, f0⟩ := r1.five
        rw [hwr] at c3
        have hrowi := KI.refl w.heap.size wr.heap.size wr
        clear hq2 hq4 r1 r2
        go_wp2_with fail
        refine (psign_as (hR.alloc _) hE (xs := [⟨#[125]⟩]) (Own.new wr _ _) 1 rfl (by omega) q hq).mono ?_
        rintro en w1 ⟨rfl, hR2, hb⟩
        have hs1 := (((Kp.refl r wr).alloc _).trans (Kp.of hb)).size
        replace hrowi := hrowi.kp (by omega) (((Kp.refl r _).alloc _).trans (Kp.of hb)) (by omega)
        replace hK := (hK.alloc _).trans (Kp.of hb)
        replace hR := hR2
        clear hb hR2
        clear hq c0 c1 c2 c3 c4 f0
        cases q with
        | true =>
          rw [if_neg (fun h => by simp at h)] at hm
          cases hm
          go_wp2
          go_ret
          exact ⟨_, rfl, hrow.ki hrowi (Nat.le_refl _), hR, hK⟩
        | false =>
          go_wp2_with fail
          refine (pword_as (hR.alloc _) hE (xs := [⟨#[99, 97, 115, 101]⟩, ⟨#[100, 101, 102, 97, 117, 108, 116]⟩]) (Own.new w1 _ _) 2 rfl (by omega) q2 hq3).mono ?_
          rintro en w2 ⟨rfl, hR2, hb⟩
          have hs2 := (((Kp.refl r w1).alloc _).trans (Kp.of hb)).size
          replace hrowi := hrowi.kp (by omega) (((Kp.refl r _).alloc _).trans (Kp.of hb)) (by omega)
          replace hK := (hK.alloc _).trans (Kp.of hb)
          replace hR := hR2
          clear hb hR2
          clear hq3
          cases q2 with
          | true =>
            rw [if_neg (fun h => by simp at h)] at hm
            cases hm
            go_wp2
            go_ret
            exact ⟨_, rfl, hrow.ki hrowi (Nat.le_refl _), hR, hK⟩
          | false =>
            rw [if_pos (by simp)] at hm
            obtain ⟨t1, s3, h3, h4⟩ := bnd_some hm
            have hrow0 := hrow.ki hrowi (Nat.le_refl _)
            clear hm hrowi
            go_wp2_with fail
            refine (HP _ _ _ _ _ _ _ hR hE hd h3).mono ?_
            rintro en w5 ⟨k1, a1, b1, n1x, v1, rfl, n1, hR2, hK2⟩
            have hs5 := hK2.size
            replace hR := hR2.alloc (.cells #[.int .u8 k1, .int .i64 a1, .string b1, .int .u64 n1x, v1] 25)
            have hK4 := hK2.alloc (.cells #[.int .u8 k1, .int .i64 a1, .string b1, .int .u64 n1x, v1] 25)
            replace hK := hK.trans hK4
            have hcs := (n1.row fun x => x.alloc (.cells #[.int .u8 k1, .int .i64 a1, .string b1, .int .u64 n1x, v1] 25)).cells
            have hb := Own.new w5 #[.int .u8 k1, .int .i64 a1, .string b1, .int .u64 n1x, v1] 25
            have hal : acc.length + 1 ≤ 1000000000 := by omega
            have hww : w2.heap.size ≤ (w5.alloc (.cells #[.int .u8 k1, .int .i64 a1, .string b1, .int .u64 n1x, v1] 25)).heap.size := by rw [World.size_alloc]; omega
            have hkeep : ∀ (g : Nat) (cur : Array Value), w.heap.size ≤ g → Own w2 g cur 25 → Own (w5.alloc (.cells #[.int .u8 k1, .int .i64 a1, .string b1, .int .u64 n1x, v1] 25)) g cur 25 := fun g cur hg ho => ho.kp hK4 (by omega)
            have hbs : w.heap.size ≤ w2.heap.size := by omega
            have hwg : ∀ k : Nat, w.heap.size ≤ k → r < k := fun k hk => by omega
            clear hK2 hR2 h3 hK4 hs5
            go_wp2_with (at_builtin; refine wpList_appN rfl (.tmp 25) (.tmp 28) rfl w.heap.size _ acc rfl w2 hrow0 hkeep [t1] 1 1 rfl w5.heap.size rfl _ hb hcs hal hbs hww ?_; intro v' w6 hrow' gz hvb)
            have hR6 := hR.grown gz (fun k hk => hwg k (hvb k hk).1)
            have hK6 := hK.grown gz (fun k hk => (hvb k hk).1)
            go_roundg gk
            case rel => exact ⟨acc ++ [t1], s3, h4, hR6, hrow', hK6, by rw [List.length_append]; simp; omega⟩
            case measure => omega
      · rw [if_neg (fun h => hwr h.1)] at hm
        have hrd := hR
        obtain ⟨rv, r1, r2⟩ := hrd
        obtain ⟨c0, c1, c2, c3, c4, f0⟩ := r1.five
        have hf : ((sl.wrong : Int) == 0) = false := by simp; omega
        generalize hgq : (sl.wrong : Int) = wq at c3 hf
        clear r1 r2 hgq hwr
        cases hm
        go_wp2
        go_ret
        exact ⟨_, rfl, hrow, hR, hK⟩
end Go.Proofs.YtmhnbklchnnbaaaGreatDoor
