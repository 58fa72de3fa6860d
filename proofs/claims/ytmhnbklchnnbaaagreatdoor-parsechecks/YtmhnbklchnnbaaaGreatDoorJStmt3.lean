import Derived.Test.YtmhnbklchnnbaaaGreatDoorJStmt1
set_option maxHeartbeats 1000000
set_option maxRecDepth 100000
namespace Go.Proofs.YtmhnbklchnnbaaaGreatDoor
open Go.RowKit
set_option linter.unusedVariables false
theorem pstmt_as {branch expr : P Tree} {stmts : P (List Tree)} {c : Nat} (f : Nat) (HB : PartAs 70 (blockP stmts) c) (HBr : PartAs 107 branch c) (HTu : TurnAs (fun lb => turnP f lb expr stmts) c) (HPl : PartAs 110 (plainP f expr) c) : PartAs 97 (stmtP f branch expr stmts) c := by
  intro w r E d s t s' hR hE hd hm
  have hrl := hR.lt
  have hK := Kp.refl r w
  unfold stmtP at hm
  go_enter Tryz.func97, Tryz.ntmps97
  go_upto_region 1 with fail
  have hzo := hR.lt
  have hko := hK.size
  have o := Own.new w #[.int .u8 0, .int .i64 0, .string ⟨#[]⟩, .int .u64 0, .slice none 0 0] 25
  replace hR := hR.alloc (.cells #[.int .u8 0, .int .i64 0, .string ⟨#[]⟩, .int .u64 0, .slice none 0 0] 25)
  replace hK := hK.alloc (.cells #[.int .u8 0, .int .i64 0, .string ⟨#[]⟩, .int .u64 0, .slice none 0 0] 25)
  generalize hw : w.alloc (.cells #[.int .u8 0, .int .i64 0, .string ⟨#[]⟩, .int .u64 0, .slice none 0 0] 25) = w1 at hR hK o ⊢
  clear hw
  have hs1 := o.lt
  obtain ⟨q, hq⟩ : ∃ q, isT 4 [⟨#[123]⟩] (nxt E s) = q := ⟨_, rfl⟩
  have hq2 : sg [123] (nxt E s) = q := (isT_sg _ _).symm.trans hq
  rw [hq2] at hm
  clear hq2
  go_wp2_with fail
  refine (psign_as (hR.alloc _) hE (xs := [⟨#[123]⟩]) (Own.new w1 _ _) 1 rfl (by omega) q hq).mono ?_
  rintro en w2 ⟨rfl, hR2, hb⟩
  have hs2 := (((Kp.refl r w1).alloc _).trans (Kp.of hb)).size
  replace o := (o.alloc _).below hb
  replace hK := (hK.alloc _).trans (Kp.of hb)
  replace hR := hR2
  clear hb hR2
  clear hq
  cases q with
  | true =>
    rw [if_pos rfl] at hm
    go_wp2_with fail
    refine (HB _ _ _ _ _ _ _ hR hE hd hm).mono ?_
    rintro en w3 ⟨k1, a1, b1, n1x, v1, rfl, n1, hR2, hK2⟩
    have hs3 := (((Kp.refl r w2)).trans hK2).size
    replace o := (o).kp hK2 (by omega)
    replace hK := (hK).trans hK2
    replace hR := hR2
    clear hK2 hR2
    have n1i := KI.refl w2.heap.size w3.heap.size w3
    go_wp2_with (refine wpList_put5 rfl (.tmp 2) (.tmp 12) rfl rfl w.heap.size rfl rfl (o) ⟨rfl, rfl, rfl, rfl, n1.2.2.2.2.one1⟩ ?_; intro wz oz gz)
    refine bodyPost_cell1 (t := 25) rfl rfl rfl oz Tryz.underlying25 rfl (by kernel_rfl) ?_
    exact ⟨_, _, _, _, _, rfl, (n1.ki (n1i.grown (by omega) gz (by omega)) (Nat.le_refl _)).mono (by omega), (hR).grown gz (some_lt (by omega)), (hK).grown gz (some_le (by omega))⟩
  | false =>
    rw [if_neg (by simp)] at hm
    obtain ⟨q, hq⟩ : ∃ q, isT 1 [⟨#[105, 102]⟩] (nxt E s) = q := ⟨_, rfl⟩
    have hq2 : wd [105, 102] (nxt E s) = q := (isT_wd _ _).symm.trans hq
    rw [hq2] at hm
    clear hq2
    go_wp2_with fail
    refine (pword_as (hR.alloc _) hE (xs := [⟨#[105, 102]⟩]) (Own.new w2 _ _) 1 rfl (by omega) q hq).mono ?_
    rintro en w3 ⟨rfl, hR2, hb⟩
    have hs3 := (((Kp.refl r w2).alloc _).trans (Kp.of hb)).size
    replace o := (o.alloc _).below hb
    replace hK := (hK.alloc _).trans (Kp.of hb)
    replace hR := hR2
    clear hb hR2
    clear hq
    cases q with
    | true =>
      rw [if_pos rfl] at hm
      go_wp2_with fail
      refine (HBr _ _ _ _ _ _ _ hR hE hd hm).mono ?_
      rintro en w4 ⟨k1, a1, b1, n1x, v1, rfl, n1, hR2, hK2⟩
      have hs4 := (((Kp.refl r w3)).trans hK2).size
      replace o := (o).kp hK2 (by omega)
      replace hK := (hK).trans hK2
      replace hR := hR2
      clear hK2 hR2
      have n1i := KI.refl w3.heap.size w4.heap.size w4
      go_wp2_with (refine wpList_put5 rfl (.tmp 2) (.tmp 20) rfl rfl w.heap.size rfl rfl (o) ⟨rfl, rfl, rfl, rfl, n1.2.2.2.2.one1⟩ ?_; intro wz oz gz)
      refine bodyPost_cell1 (t := 25) rfl rfl rfl oz Tryz.underlying25 rfl (by kernel_rfl) ?_
      exact ⟨_, _, _, _, _, rfl, (n1.ki (n1i.grown (by omega) gz (by omega)) (Nat.le_refl _)).mono (by omega), (hR).grown gz (some_lt (by omega)), (hK).grown gz (some_le (by omega))⟩
    | false =>
      rw [if_neg (by simp)] at hm
      obtain ⟨q, hq⟩ : ∃ q, isT 1 [⟨#[119, 104, 105, 108, 101]⟩, ⟨#[102, 111, 114]⟩, ⟨#[115, 119, 105, 116, 99, 104]⟩] (nxt E s) = q := ⟨_, rfl⟩
      have hq2 : turnW (nxt E s) = q := (isT_turnW _).symm.trans hq
      rw [hq2] at hm
      clear hq2
      go_wp2_with fail
      refine (pword_as (hR.alloc _) hE (xs := [⟨#[119, 104, 105, 108, 101]⟩, ⟨#[102, 111, 114]⟩, ⟨#[115, 119, 105, 116, 99, 104]⟩]) (Own.new w3 _ _) 3 rfl (by omega) q hq).mono ?_
      rintro en w4 ⟨rfl, hR2, hb⟩
      have hs4 := (((Kp.refl r w3).alloc _).trans (Kp.of hb)).size
      replace o := (o.alloc _).below hb
      replace hK := (hK.alloc _).trans (Kp.of hb)
      replace hR := hR2
      clear hb hR2
      clear hq
      cases q with
      | true =>
        rw [if_pos rfl] at hm
        go_wp2_with fail
        refine (HTu [] ⟨#[]⟩ rfl _ _ _ _ _ _ _ hR hE hd hm).mono ?_
        rintro en w5 ⟨k1, a1, b1, n1x, v1, rfl, n1, hR2, hK2⟩
        have hs5 := (((Kp.refl r w4)).trans hK2).size
        replace o := (o).kp hK2 (by omega)
        replace hK := (hK).trans hK2
        replace hR := hR2
        clear hK2 hR2
        have n1i := KI.refl w4.heap.size w5.heap.size w5
        go_wp2_with (refine wpList_put5 rfl (.tmp 2) (.tmp 28) rfl rfl w.heap.size rfl rfl (o) ⟨rfl, rfl, rfl, rfl, n1.2.2.2.2.one1⟩ ?_; intro wz oz gz)
        refine bodyPost_cell1 (t := 25) rfl rfl rfl oz Tryz.underlying25 rfl (by kernel_rfl) ?_
        exact ⟨_, _, _, _, _, rfl, (n1.ki (n1i.grown (by omega) gz (by omega)) (Nat.le_refl _)).mono (by omega), (hR).grown gz (some_lt (by omega)), (hK).grown gz (some_le (by omega))⟩
      | false =>
        rw [if_neg (by simp)] at hm
        obtain ⟨q, hq⟩ : ∃ q, labelB E s = q := ⟨_, rfl⟩
        rw [hq] at hm
        go_wp2_with fail
        refine (plabel_as hR hE q hq).mono ?_
        rintro en w5 ⟨rfl, hR2, hb⟩
        have hs5 := (((Kp.refl r w4)).trans (Kp.of hb)).size
        replace o := (o).below hb
        replace hK := (hK).trans (Kp.of hb)
        replace hR := hR2
        clear hb hR2
        clear hq
        cases q with
        | true =>
          rw [if_pos rfl] at hm
          obtain ⟨tk, s1, h1, h2⟩ := bnd_some hm
          obtain ⟨rfl, rfl⟩ := take_some h1
          obtain ⟨tk2, s2, h3, h4⟩ := bnd_some h2
          obtain ⟨rfl, rfl⟩ := take_some h3
          obtain ⟨k, tx, nn, a, e, ht⟩ := tokIs (nxt E s)
          obtain ⟨k', tx', nn', a', e', ht'⟩ := tokIs (nxt E (popS s))
          clear hm h1 h2 h3
          go_wp2_with fail
          refine (ptake_as hR hE ht).mono ?_
          rintro en w6 ⟨rfl, hR2, hK2⟩
          have hs6 := (((Kp.refl r w5)).trans hK2).size
          replace o := (o).kp hK2 (by omega)
          replace hK := (hK).trans hK2
          replace hR := hR2
          clear hK2 hR2
          go_wp2_with fail
          refine (ptake_as hR hE ht').mono ?_
          rintro en w7 ⟨rfl, hR2, hK2⟩
          have hs7 := (((Kp.refl r w6)).trans hK2).size
          replace o := (o).kp hK2 (by omega)
          replace hK := (hK).trans hK2
          replace hR := hR2
          clear hK2 hR2
          go_wp2_with fail
          refine (HTu _ _ ht.2.1 _ _ _ _ _ _ _ hR hE hd h4).mono ?_
          rintro en w8 ⟨k1, a1, b1, n1x, v1, rfl, n1, hR2, hK2⟩
          have hs8 := (((Kp.refl r w7)).trans hK2).size
          replace o := (o).kp hK2 (by omega)
          replace hK := (hK).trans hK2
          replace hR := hR2
          clear hK2 hR2
          have n1i := KI.refl w7.heap.size w8.heap.size w8
          go_wp2_with (refine wpList_put5 rfl (.tmp 2) (.tmp 45) rfl rfl w.heap.size rfl rfl (o) ⟨rfl, rfl, rfl, rfl, n1.2.2.2.2.one1⟩ ?_; intro wz oz gz)
          refine bodyPost_cell1 (t := 25) rfl rfl rfl oz Tryz.underlying25 rfl (by kernel_rfl) ?_
          exact ⟨_, _, _, _, _, rfl, (n1.ki (n1i.grown (by omega) gz (by omega)) (Nat.le_refl _)).mono (by omega), (hR).grown gz (some_lt (by omega)), (hK).grown gz (some_le (by omega))⟩
        | false =>
          rw [if_neg (by simp)] at hm
          obtain ⟨m, s1, h1, h2⟩ := bnd_some hm
          obtain ⟨tk, s2, h3, h4⟩ := bnd_some h2
          obtain ⟨rfl, rfl⟩ := ret_some h4
          obtain ⟨q, hq⟩ : ∃ q, isT 4 [⟨#[59]⟩] (nxt E s1) = q := ⟨_, rfl⟩
          have hq2 : sg [59] (nxt E s1) = q := (isT_sg _ _).symm.trans hq
          have hn : needT q E d s1 = some (tk, s2) := by rw [← hq2]; exact h3
          obtain ⟨k, tx, nn, a, e, ht⟩ := tokIs tk
          clear hm h2 h3 h4 hq2
          go_wp2_with fail
          refine (HPl _ _ _ _ _ _ _ hR hE hd h1).mono ?_
          rintro en w6 ⟨k1, a1, b1, n1x, v1, rfl, n1, hR2, hK2⟩
          obtain ⟨ao_n1, cap_n1, rfl⟩ := n1.2.2.2.2.shape
          have hs6 := (((Kp.refl r w5)).trans hK2).size
          replace o := (o).kp hK2 (by omega)
          replace hK := (hK).trans hK2
          replace hR := hR2
          clear hK2 hR2
          have n1i := KI.refl w5.heap.size w6.heap.size w6
          go_upto_region 12 with fail
          have hzm1 := hR.lt
          have hkm1 := hK.size
          have m1 := Own.new w6 #[.int .u8 k1, .int .i64 a1, .string b1, .int .u64 n1x, .slice ao_n1 m.kids.length cap_n1] 25
          replace hR := hR.alloc (.cells #[.int .u8 k1, .int .i64 a1, .string b1, .int .u64 n1x, .slice ao_n1 m.kids.length cap_n1] 25)
          replace hK := hK.alloc (.cells #[.int .u8 k1, .int .i64 a1, .string b1, .int .u64 n1x, .slice ao_n1 m.kids.length cap_n1] 25)
          replace o := o.alloc (.cells #[.int .u8 k1, .int .i64 a1, .string b1, .int .u64 n1x, .slice ao_n1 m.kids.length cap_n1] 25)
          replace n1i := n1i.alloc (by omega) (.cells #[.int .u8 k1, .int .i64 a1, .string b1, .int .u64 n1x, .slice ao_n1 m.kids.length cap_n1] 25)
          generalize hw : w6.alloc (.cells #[.int .u8 k1, .int .i64 a1, .string b1, .int .u64 n1x, .slice ao_n1 m.kids.length cap_n1] 25) = w7 at hR hK m1 o n1i ⊢
          clear hw
          have hs7 := m1.lt
          go_wp2_with fail
          refine (psign_as (hR.alloc _) hE (xs := [⟨#[59]⟩]) (Own.new w7 _ _) 1 rfl (by omega) q hq).mono ?_
          rintro en w8 ⟨rfl, hR2, hb⟩
          have hs8 := (((Kp.refl r w7).alloc _).trans (Kp.of hb)).size
          replace o := (o.alloc _).below hb
          replace m1 := (m1.alloc _).below hb
          replace n1i := n1i.kp (by omega) (((Kp.refl r _).alloc _).trans (Kp.of hb)) (by omega)
          replace hK := (hK.alloc _).trans (Kp.of hb)
          replace hR := hR2
          clear hb hR2
          go_wp2_with fail
          refine (pneed_as hR hE q hn ht).mono ?_
          rintro en w9 ⟨rfl, hR2, hK2⟩
          have hs9 := (((Kp.refl r w8)).trans hK2).size
          replace o := (o).kp hK2 (by omega)
          replace m1 := (m1).kp hK2 (by omega)
          replace n1i := n1i.kp (by omega) (((Kp.refl r _)).trans hK2) (by omega)
          replace hK := (hK).trans hK2
          replace hR := hR2
          clear hK2 hR2
          obtain ⟨m10, m11, m12, m13, m14, m1f⟩ := m1.five
          go_wp2_with (refine wpList_put5 rfl (.tmp 2) (.tmp 55) rfl rfl w.heap.size rfl rfl (o) ⟨rfl, rfl, rfl, rfl, rfl⟩ ?_; intro wz oz gz)
          refine bodyPost_cell1 (t := 25) rfl rfl rfl oz Tryz.underlying25 rfl (by kernel_rfl) ?_
          exact ⟨_, _, _, _, _, rfl, (n1.ki (n1i.grown (by omega) gz (by omega)) (Nat.le_refl _)).mono (by omega), (hR).grown gz (some_lt (by omega)), (hK).grown gz (some_le (by omega))⟩
theorem pplain_as {expr : P Tree} {c : Nat} (f : Nat) (hf : f ≤ 100000000) (HP : PartAs 37 expr c) (HV : PartAs 122 (varP f expr) c) : PartAs 110 (plainP f expr) c := by
  intro w r E d s t s' hR hE hd hm
  have hrl := hR.lt
  have hK := Kp.refl r w
  replace hm := look_some hm
  go_enter Tryz.func110, Tryz.ntmps110
  go_upto_region 1 with fail
  have hzo := hR.lt
  have hko := hK.size
  have o := Own.new w #[.int .u8 0, .int .i64 0, .string ⟨#[]⟩, .int .u64 0, .slice none 0 0] 25
  replace hR := hR.alloc (.cells #[.int .u8 0, .int .i64 0, .string ⟨#[]⟩, .int .u64 0, .slice none 0 0] 25)
  replace hK := hK.alloc (.cells #[.int .u8 0, .int .i64 0, .string ⟨#[]⟩, .int .u64 0, .slice none 0 0] 25)
  generalize hw : w.alloc (.cells #[.int .u8 0, .int .i64 0, .string ⟨#[]⟩, .int .u64 0, .slice none 0 0] 25) = w1 at hR hK o ⊢
  clear hw
  have hs1 := o.lt
  obtain ⟨q, hq⟩ : ∃ q, isT 1 [⟨#[98, 114, 101, 97, 107]⟩] (nxt E s) = q := ⟨_, rfl⟩
  have hq2 : wd [98, 114, 101, 97, 107] (nxt E s) = q := (isT_wd _ _).symm.trans hq
  rw [hq2] at hm
  clear hq2
  go_wp2_with fail
  refine (pword_as (hR.alloc _) hE (xs := [⟨#[98, 114, 101, 97, 107]⟩]) (Own.new w1 _ _) 1 rfl (by omega) q hq).mono ?_
  rintro en w2 ⟨rfl, hR2, hb⟩
  have hs2 := (((Kp.refl r w1).alloc _).trans (Kp.of hb)).size
  replace o := (o.alloc _).below hb
  replace hK := (hK.alloc _).trans (Kp.of hb)
  replace hR := hR2
  clear hb hR2
  clear hq
  cases q with
  | true =>
    rw [if_pos rfl] at hm
    go_wp2_with fail
    refine (paway_as 20 20 rfl _ _ _ _ _ _ _ hR hE (by omega) hm).mono ?_
    rintro en w3 ⟨k1, a1, b1, n1x, v1, rfl, n1, hR2, hK2⟩
    have hs3 := (((Kp.refl r w2)).trans hK2).size
    replace o := (o).kp hK2 (by omega)
    replace hK := (hK).trans hK2
    replace hR := hR2
    clear hK2 hR2
    have n1i := KI.refl w2.heap.size w3.heap.size w3
    go_wp2_with (refine wpList_put5 rfl (.tmp 2) (.tmp 12) rfl rfl w.heap.size rfl rfl (o) ⟨rfl, rfl, rfl, rfl, n1.2.2.2.2.one1⟩ ?_; intro wz oz gz)
    refine bodyPost_cell1 (t := 25) rfl rfl rfl oz Tryz.underlying25 rfl (by kernel_rfl) ?_
    exact ⟨_, _, _, _, _, rfl, (n1.ki (n1i.grown (by omega) gz (by omega)) (Nat.le_refl _)).mono (by omega), (hR).grown gz (some_lt (by omega)), (hK).grown gz (some_le (by omega))⟩
  | false =>
    rw [if_neg (by simp)] at hm
    obtain ⟨q, hq⟩ : ∃ q, isT 1 [⟨#[99, 111, 110, 116, 105, 110, 117, 101]⟩] (nxt E s) = q := ⟨_, rfl⟩
    have hq2 : wd [99, 111, 110, 116, 105, 110, 117, 101] (nxt E s) = q := (isT_wd _ _).symm.trans hq
    rw [hq2] at hm
    clear hq2
    go_wp2_with fail
    refine (pword_as (hR.alloc _) hE (xs := [⟨#[99, 111, 110, 116, 105, 110, 117, 101]⟩]) (Own.new w2 _ _) 1 rfl (by omega) q hq).mono ?_
    rintro en w3 ⟨rfl, hR2, hb⟩
    have hs3 := (((Kp.refl r w2).alloc _).trans (Kp.of hb)).size
    replace o := (o.alloc _).below hb
    replace hK := (hK.alloc _).trans (Kp.of hb)
    replace hR := hR2
    clear hb hR2
    clear hq
    cases q with
    | true =>
      rw [if_pos rfl] at hm
      go_wp2_with fail
      refine (paway_as 21 21 rfl _ _ _ _ _ _ _ hR hE (by omega) hm).mono ?_
      rintro en w4 ⟨k1, a1, b1, n1x, v1, rfl, n1, hR2, hK2⟩
      have hs4 := (((Kp.refl r w3)).trans hK2).size
      replace o := (o).kp hK2 (by omega)
      replace hK := (hK).trans hK2
      replace hR := hR2
      clear hK2 hR2
      have n1i := KI.refl w3.heap.size w4.heap.size w4
      go_wp2_with (refine wpList_put5 rfl (.tmp 2) (.tmp 20) rfl rfl w.heap.size rfl rfl (o) ⟨rfl, rfl, rfl, rfl, n1.2.2.2.2.one1⟩ ?_; intro wz oz gz)
      refine bodyPost_cell1 (t := 25) rfl rfl rfl oz Tryz.underlying25 rfl (by kernel_rfl) ?_
      exact ⟨_, _, _, _, _, rfl, (n1.ki (n1i.grown (by omega) gz (by omega)) (Nat.le_refl _)).mono (by omega), (hR).grown gz (some_lt (by omega)), (hK).grown gz (some_le (by omega))⟩
    | false =>
      rw [if_neg (by simp)] at hm
      obtain ⟨q, hq⟩ : ∃ q, isT 1 [⟨#[114, 101, 116, 117, 114, 110]⟩] (nxt E s) = q := ⟨_, rfl⟩
      have hq2 : wd [114, 101, 116, 117, 114, 110] (nxt E s) = q := (isT_wd _ _).symm.trans hq
      rw [hq2] at hm
      clear hq2
      go_wp2_with fail
      refine (pword_as (hR.alloc _) hE (xs := [⟨#[114, 101, 116, 117, 114, 110]⟩]) (Own.new w3 _ _) 1 rfl (by omega) q hq).mono ?_
      rintro en w4 ⟨rfl, hR2, hb⟩
      have hs4 := (((Kp.refl r w3).alloc _).trans (Kp.of hb)).size
      replace o := (o.alloc _).below hb
      replace hK := (hK.alloc _).trans (Kp.of hb)
      replace hR := hR2
      clear hb hR2
      clear hq
      cases q with
      | true =>
        rw [if_pos rfl] at hm
        obtain ⟨tk, s1, h1, h2⟩ := bnd_some hm
        obtain ⟨rfl, rfl⟩ := take_some h1
        replace h2 := look_some h2
        obtain ⟨q, hq⟩ : ∃ q, isT 4 [⟨#[59]⟩] (nxt E (popS s)) = q := ⟨_, rfl⟩
        have hq2 : sg [59] (nxt E (popS s)) = q := (isT_sg _ _).symm.trans hq
        rw [hq2] at h2
        obtain ⟨k, tx, nn, a, e, ht⟩ := tokIs (nxt E s)
        clear hm h1 hq2
        go_wp2_with fail
        refine (ptake_as hR hE ht).mono ?_
        rintro en w5 ⟨rfl, hR2, hK2⟩
        have hs5 := (((Kp.refl r w4)).trans hK2).size
        replace o := (o).kp hK2 (by omega)
        replace hK := (hK).trans hK2
        replace hR := hR2
        clear hK2 hR2
        go_upto_region 7 with fail
        have hzm1 := hR.lt
        have hkm1 := hK.size
        have m1 := Own.new w5 #[.int .u8 22, .int .i64 a, .string ⟨#[]⟩, .int .u64 0, .slice none 0 0] 25
        replace hR := hR.alloc (.cells #[.int .u8 22, .int .i64 a, .string ⟨#[]⟩, .int .u64 0, .slice none 0 0] 25)
        replace hK := hK.alloc (.cells #[.int .u8 22, .int .i64 a, .string ⟨#[]⟩, .int .u64 0, .slice none 0 0] 25)
        replace o := o.alloc (.cells #[.int .u8 22, .int .i64 a, .string ⟨#[]⟩, .int .u64 0, .slice none 0 0] 25)
        generalize hw : w5.alloc (.cells #[.int .u8 22, .int .i64 a, .string ⟨#[]⟩, .int .u64 0, .slice none 0 0] 25) = w6 at hR hK m1 o ⊢
        clear hw
        have hs6 := m1.lt
        go_wp2_with fail
        refine (psign_as (hR.alloc _) hE (xs := [⟨#[59]⟩]) (Own.new w6 _ _) 1 rfl (by omega) q hq).mono ?_
        rintro en w7 ⟨rfl, hR2, hb⟩
        have hs7 := (((Kp.refl r w6).alloc _).trans (Kp.of hb)).size
        replace o := (o.alloc _).below hb
        replace m1 := (m1.alloc _).below hb
        replace hK := (hK.alloc _).trans (Kp.of hb)
        replace hR := hR2
        clear hb hR2
        clear hq
        cases q with
        | true =>
          rw [if_pos rfl] at h2
          obtain ⟨rfl, rfl⟩ := ret_some h2
          obtain ⟨m10, m11, m12, m13, m14, m1f⟩ := m1.five
          go_wp2_with (refine wpList_put5 rfl (.tmp 2) (.tmp 42) rfl rfl w.heap.size rfl rfl (o) ⟨rfl, rfl, rfl, rfl, rfl⟩ ?_; intro wz oz gz)
          refine bodyPost_cell1 (t := 25) rfl rfl rfl oz Tryz.underlying25 rfl (by kernel_rfl) ?_
          exact ⟨_, _, _, _, _, rfl, ⟨rfl, ht.2.2.2.1, rfl, rfl, Row.nil _ _⟩, (hR).grown gz (some_lt (by omega)), (hK).grown gz (some_le (by omega))⟩
        | false =>
          rw [if_neg (by simp)] at h2
          obtain ⟨l, s2, h3, h4⟩ := bnd_some h2
          obtain ⟨rfl, rfl⟩ := ret_some h4
          clear h2 h4
          go_wp2_with fail
          refine (plist_as fn_expr HP f hf _ _ _ _ _ _ _ hR hE hd h3).mono ?_
          rintro en w8 ⟨v2, rfl, hrow, hR2, hK2⟩
          have hs8 := (((Kp.refl r w7)).trans hK2).size
          replace o := (o).kp hK2 (by omega)
          replace m1 := (m1).kp hK2 (by omega)
          replace hK := (hK).trans hK2
          replace hR := hR2
          clear hK2 hR2
          have hrowi := KI.refl w7.heap.size w8.heap.size w8
          obtain ⟨ao, cap, rfl⟩ := hrow.shape
          go_upto_region 9 with (first | (refine wpList_put1nodes rfl (.tmp 41) (.tmp 40) rfl rfl w5.heap.size 4 rfl rfl m1 (by simp) ?_; intro wq0 m1q0 gq0))
          have hs9 := gq0.size
          replace o := o.grown gq0 (some_ne (by omega))
          replace hrowi := hrowi.grown (by omega) gq0 (by omega)
          replace hR := hR.grown gq0 (some_lt (by omega))
          replace hK := hK.grown gq0 (some_le (by omega))
          replace m1 : Own wq0 w5.heap.size #[.int .u8 22, .int .i64 a, .string ⟨#[]⟩, .int .u64 0, .slice ao l.length cap] 25 := m1q0
          clear m1q0 gq0
          generalize hw : wq0 = w9 at *
          clear hw
          obtain ⟨m10, m11, m12, m13, m14, m1f⟩ := m1.five
          go_wp2_with (refine wpList_put5 rfl (.tmp 2) (.tmp 42) rfl rfl w.heap.size rfl rfl (o) ⟨rfl, rfl, rfl, rfl, rfl⟩ ?_; intro wz oz gz)
          refine bodyPost_cell1 (t := 25) rfl rfl rfl oz Tryz.underlying25 rfl (by kernel_rfl) ?_
          exact ⟨_, _, _, _, _, rfl, ⟨rfl, ht.2.2.2.1, rfl, rfl, ((hrow.ki (hrowi.grown (by omega) gz (by omega)) (Nat.le_refl _)).mono (by omega))⟩, (hR).grown gz (some_lt (by omega)), (hK).grown gz (some_le (by omega))⟩
      | false =>
        rw [if_neg (by simp)] at hm
        obtain ⟨q, hq⟩ : ∃ q, isT 1 [⟨#[116, 114, 97, 112]⟩] (nxt E s) = q := ⟨_, rfl⟩
        have hq2 : wd [116, 114, 97, 112] (nxt E s) = q := (isT_wd _ _).symm.trans hq
        rw [hq2] at hm
        clear hq2
        go_wp2_with fail
        refine (pword_as (hR.alloc _) hE (xs := [⟨#[116, 114, 97, 112]⟩]) (Own.new w4 _ _) 1 rfl (by omega) q hq).mono ?_
        rintro en w5 ⟨rfl, hR2, hb⟩
        have hs5 := (((Kp.refl r w4).alloc _).trans (Kp.of hb)).size
        replace o := (o.alloc _).below hb
        replace hK := (hK.alloc _).trans (Kp.of hb)
        replace hR := hR2
        clear hb hR2
        clear hq
        cases q with
        | true =>
          rw [if_pos rfl] at hm
          obtain ⟨tk, s1, h1, h2⟩ := bnd_some hm
          obtain ⟨rfl, rfl⟩ := take_some h1
          obtain ⟨tk2, s2, h3, h4⟩ := bnd_some h2
          obtain ⟨rfl, rfl⟩ := ret_some h4
          obtain ⟨k, tx, nn, a, e, ht⟩ := tokIs (nxt E s)
          obtain ⟨k', tx', nn', a', e', ht'⟩ := tokIs (nxt E (popS s))
          obtain ⟨k2, tx2, nn2, a2, e2, ht2⟩ := tokIs tk2
          obtain ⟨q, hq⟩ : ∃ q, cn (nxt E (popS s)) = q := ⟨_, rfl⟩
          have hn : needT (q && decide (nn' ≤ 255)) E d (popS s) = some (tk2, s2) := by
            have e1 : decide (nn' ≤ 255) = decide ((nxt E (popS s)).2.2.1 ≤ 255) := by have := ht'.2.2.1; rw [Bool.eq_iff_iff]; simp; omega
            rw [← hq, e1]; exact h3
          clear hm h1 h2 h3 h4
          go_wp2_with fail
          refine (ptake_as hR hE ht).mono ?_
          rintro en w6 ⟨rfl, hR2, hK2⟩
          have hs6 := (((Kp.refl r w5)).trans hK2).size
          replace o := (o).kp hK2 (by omega)
          replace hK := (hK).trans hK2
          replace hR := hR2
          clear hK2 hR2
          go_wp2_with fail
          refine (pcount_as hR hE q hq).mono ?_
          rintro en w7 ⟨rfl, hR2, hb⟩
          have hs7 := (((Kp.refl r w6)).trans (Kp.of hb)).size
          replace o := (o).below hb
          replace hK := (hK).trans (Kp.of hb)
          replace hR := hR2
          clear hb hR2
          clear hq
          cases q with
          | false =>
            go_wp2_with fail
            refine (pneed_as hR hE _ hn ht2).mono ?_
            rintro en w8 ⟨rfl, hR2, hK2⟩
            have hs8 := (((Kp.refl r w7)).trans hK2).size
            replace o := (o).kp hK2 (by omega)
            replace hK := (hK).trans hK2
            replace hR := hR2
            clear hK2 hR2
            go_wp2_with (refine wpList_put5 rfl (.tmp 2) (.tmp 70) rfl rfl w.heap.size rfl rfl (o) ⟨rfl, rfl, rfl, rfl, rfl⟩ ?_; intro wz oz gz)
            refine bodyPost_cell1 (t := 25) rfl rfl rfl oz Tryz.underlying25 rfl (by kernel_rfl) ?_
            exact ⟨_, _, _, _, _, rfl, ⟨rfl, ht.2.2.2.1, rfl, ht2.2.2.1, Row.nil _ _⟩, (hR).grown gz (some_lt (by omega)), (hK).grown gz (some_le (by omega))⟩
          | true =>
            go_wp2_with fail
            refine (pnext_as hR hE ht').mono ?_
            rintro en w8 ⟨rfl, hb⟩
            have hR2 := hR.below hb
            have hs8 := (((Kp.refl r w7)).trans (Kp.of hb)).size
            replace o := (o).below hb
            replace hK := (hK).trans (Kp.of hb)
            replace hR := hR2
            clear hb hR2
            rw [Bool.true_and] at hn
            go_wp2_with fail
            refine (pneed_as hR hE _ hn ht2).mono ?_
            rintro en w9 ⟨rfl, hR2, hK2⟩
            have hs9 := (((Kp.refl r w8)).trans hK2).size
            replace o := (o).kp hK2 (by omega)
            replace hK := (hK).trans hK2
            replace hR := hR2
            clear hK2 hR2
            go_wp2_with (refine wpList_put5 rfl (.tmp 2) (.tmp 70) rfl rfl w.heap.size rfl rfl (o) ⟨rfl, rfl, rfl, rfl, rfl⟩ ?_; intro wz oz gz)
            refine bodyPost_cell1 (t := 25) rfl rfl rfl oz Tryz.underlying25 rfl (by kernel_rfl) ?_
            exact ⟨_, _, _, _, _, rfl, ⟨rfl, ht.2.2.2.1, rfl, ht2.2.2.1, Row.nil _ _⟩, (hR).grown gz (some_lt (by omega)), (hK).grown gz (some_le (by omega))⟩
        | false =>
          rw [if_neg (by simp)] at hm
          go_wp2_with fail
          refine (HV _ _ _ _ _ _ _ hR hE hd hm).mono ?_
          rintro en w6 ⟨k1, a1, b1, n1x, v1, rfl, n1, hR2, hK2⟩
          have hs6 := (((Kp.refl r w5)).trans hK2).size
          replace o := (o).kp hK2 (by omega)
          replace hK := (hK).trans hK2
          replace hR := hR2
          clear hK2 hR2
          have n1i := KI.refl w5.heap.size w6.heap.size w6
          go_wp2_with (refine wpList_put5 rfl (.tmp 2) (.tmp 72) rfl rfl w.heap.size rfl rfl (o) ⟨rfl, rfl, rfl, rfl, n1.2.2.2.2.one1⟩ ?_; intro wz oz gz)
          refine bodyPost_cell1 (t := 25) rfl rfl rfl oz Tryz.underlying25 rfl (by kernel_rfl) ?_
          exact ⟨_, _, _, _, _, rfl, (n1.ki (n1i.grown (by omega) gz (by omega)) (Nat.le_refl _)).mono (by omega), (hR).grown gz (some_lt (by omega)), (hK).grown gz (some_le (by omega))⟩
theorem listP_len {part : P Tree} {f E d : Nat} {s : St} {ts : List Tree} {s' : St} (h : listP f part E d s = some (ts, s')) : ts.length ≤ f + 1 := by
  obtain ⟨n, s5, h9, h10⟩ := bnd_some h
  have := listL_len _ _ _ _ _ _ _ h10
  simp at this; omega
theorem pvarOrSimple_as {expr : P Tree} {c : Nat} (f : Nat) (hf : f ≤ 100000000) (HP : PartAs 37 expr c) (HS : PartAs 131 (simpleP f expr) c) : PartAs 122 (varP f expr) c := by
  intro w r E d s t s' hR hE hd hm
  have hrl := hR.lt
  have hK := Kp.refl r w
  replace hm := look_some hm
  obtain ⟨q, hq⟩ : ∃ q, isT 1 [⟨#[118, 97, 114]⟩] (nxt E s) = q := ⟨_, rfl⟩
  have hq2 : wd [118, 97, 114] (nxt E s) = q := (isT_wd _ _).symm.trans hq
  rw [hq2] at hm
  clear hq2
  go_enter Tryz.func122, Tryz.ntmps122
  go_upto_region 1 with fail
  have hzo := hR.lt
  have hko := hK.size
  have o := Own.new w #[.int .u8 0, .int .i64 0, .string ⟨#[]⟩, .int .u64 0, .slice none 0 0] 25
  replace hR := hR.alloc (.cells #[.int .u8 0, .int .i64 0, .string ⟨#[]⟩, .int .u64 0, .slice none 0 0] 25)
  replace hK := hK.alloc (.cells #[.int .u8 0, .int .i64 0, .string ⟨#[]⟩, .int .u64 0, .slice none 0 0] 25)
  generalize hw : w.alloc (.cells #[.int .u8 0, .int .i64 0, .string ⟨#[]⟩, .int .u64 0, .slice none 0 0] 25) = w1 at hR hK o ⊢
  clear hw
  have hs1 := o.lt
  go_wp2_with fail
  refine (pword_as (hR.alloc _) hE (xs := [⟨#[118, 97, 114]⟩]) (Own.new w1 _ _) 1 rfl (by omega) q hq).mono ?_
  rintro en w2 ⟨rfl, hR2, hb⟩
  have hs2 := (((Kp.refl r w1).alloc _).trans (Kp.of hb)).size
  replace o := (o.alloc _).below hb
  replace hK := (hK.alloc _).trans (Kp.of hb)
  replace hR := hR2
  clear hb hR2
  clear hq
  cases q with
  | false =>
    rw [if_neg (by simp)] at hm
    go_wp2_with fail
    refine (HS _ _ _ _ _ _ _ hR hE hd hm).mono ?_
    rintro en w3 ⟨k1, a1, b1, n1x, v1, rfl, n1, hR2, hK2⟩
    have hs3 := (((Kp.refl r w2)).trans hK2).size
    replace o := (o).kp hK2 (by omega)
    replace hK := (hK).trans hK2
    replace hR := hR2
    clear hK2 hR2
    have n1i := KI.refl w2.heap.size w3.heap.size w3
    go_wp2_with (refine wpList_put5 rfl (.tmp 2) (.tmp 12) rfl rfl w.heap.size rfl rfl (o) ⟨rfl, rfl, rfl, rfl, n1.2.2.2.2.one1⟩ ?_; intro wz oz gz)
    refine bodyPost_cell1 (t := 25) rfl rfl rfl oz Tryz.underlying25 rfl (by kernel_rfl) ?_
    exact ⟨_, _, _, _, _, rfl, (n1.ki (n1i.grown (by omega) gz (by omega)) (Nat.le_refl _)).mono (by omega), (hR).grown gz (some_lt (by omega)), (hK).grown gz (some_le (by omega))⟩
  | true =>
    rw [if_pos rfl] at hm
    obtain ⟨tk, s1, h1, h2⟩ := bnd_some hm
    obtain ⟨rfl, rfl⟩ := take_some h1
    obtain ⟨l, s2, h3, h4⟩ := bnd_some h2
    obtain ⟨tk2, s3, h5, h6⟩ := bnd_some h4
    obtain ⟨x1, s4, h7, h8⟩ := bnd_some h6
    obtain ⟨rfl, rfl⟩ := ret_some h8
    obtain ⟨k, tx, nn, a, e, ht⟩ := tokIs (nxt E s)
    obtain ⟨k', tx', nn', a', e', ht'⟩ := tokIs tk2
    obtain ⟨q, hq⟩ : ∃ q, isT 4 [⟨#[61]⟩] (nxt E s2) = q := ⟨_, rfl⟩
    have hq2 : sg [61] (nxt E s2) = q := (isT_sg _ _).symm.trans hq
    have hn : needT q E d s2 = some (tk2, s3) := by rw [← hq2]; exact h5
    clear hm h1 h2 h4 h5 h6 h8 hq2
    go_wp2_with fail
    refine (ptake_as hR hE ht).mono ?_
    rintro en w3 ⟨rfl, hR2, hK2⟩
    have hs3 := (((Kp.refl r w2)).trans hK2).size
    replace o := (o).kp hK2 (by omega)
    replace hK := (hK).trans hK2
    replace hR := hR2
    clear hK2 hR2
    go_wp2_with fail
    refine (plist_as fn_newName (pnewName_as) f hf _ _ _ _ _ _ _ hR hE (by omega) h3).mono ?_
    rintro en w4 ⟨v2, rfl, hrow, hR2, hK2⟩
    have hs4 := (((Kp.refl r w3)).trans hK2).size
    replace o := (o).kp hK2 (by omega)
    replace hK := (hK).trans hK2
    replace hR := hR2
    clear hK2 hR2
    have hrowi := KI.refl w3.heap.size w4.heap.size w4
    obtain ⟨ao, cap, rfl⟩ := hrow.shape
    go_wp2_with fail
    refine (psign_as (hR.alloc _) hE (xs := [⟨#[61]⟩]) (Own.new w4 _ _) 1 rfl (by omega) q hq).mono ?_
    rintro en w5 ⟨rfl, hR2, hb⟩
    have hs5 := (((Kp.refl r w4).alloc _).trans (Kp.of hb)).size
    replace o := (o.alloc _).below hb
    replace hrowi := hrowi.kp (by omega) (((Kp.refl r _).alloc _).trans (Kp.of hb)) (by omega)
    replace hK := (hK.alloc _).trans (Kp.of hb)
    replace hR := hR2
    clear hb hR2
    go_wp2_with fail
    refine (pneed_as hR hE q hn ht').mono ?_
    rintro en w6 ⟨rfl, hR2, hK2⟩
    have hs6 := (((Kp.refl r w5)).trans hK2).size
    replace o := (o).kp hK2 (by omega)
    replace hrowi := hrowi.kp (by omega) (((Kp.refl r _)).trans hK2) (by omega)
    replace hK := (hK).trans hK2
    replace hR := hR2
    clear hK2 hR2
    clear hq hn
    have hrow0 := hrow.ki hrowi (Nat.le_refl _)
    have hob := o.lt
    go_wp2_with fail
    refine (HP _ _ _ _ _ _ _ hR hE hd h7).mono ?_
    rintro en wx ⟨k1, a1, b1, n1x, v1, rfl, n1, hR2, hK2⟩
    have hs5 := hK2.size
    replace hR := hR2.alloc (.cells #[.int .u8 k1, .int .i64 a1, .string b1, .int .u64 n1x, v1] 25)
    have hK4 := hK2.alloc (.cells #[.int .u8 k1, .int .i64 a1, .string b1, .int .u64 n1x, v1] 25)
    replace hK := hK.trans hK4
    replace o := (o.kp hK2 (by omega)).alloc (.cells #[.int .u8 k1, .int .i64 a1, .string b1, .int .u64 n1x, v1] 25)
    have hcs := (n1.row fun x => x.alloc (.cells #[.int .u8 k1, .int .i64 a1, .string b1, .int .u64 n1x, v1] 25)).cells
    have hb := Own.new wx #[.int .u8 k1, .int .i64 a1, .string b1, .int .u64 n1x, v1] 25
    have hal : l.length + 1 ≤ 1000000000 := by have := listP_len h3; omega
    have hww : w6.heap.size ≤ (wx.alloc (.cells #[.int .u8 k1, .int .i64 a1, .string b1, .int .u64 n1x, v1] 25)).heap.size := by rw [World.size_alloc]; omega
    have hkeep : ∀ (g : Nat) (cur : Array Value), w3.heap.size ≤ g → Own w6 g cur 25 → Own (wx.alloc (.cells #[.int .u8 k1, .int .i64 a1, .string b1, .int .u64 n1x, v1] 25)) g cur 25 := fun g cur hg ho => ho.kp hK4 (by omega)
    have hbs : w3.heap.size ≤ w6.heap.size := by omega
    have hwg : ∀ k : Nat, w3.heap.size ≤ k → r < k := fun k hk => by omega
    have hwo : ∀ k : Nat, w3.heap.size ≤ k → w.heap.size < k := fun k hk => by omega
    clear hK2 hR2 hK4 hs5
    go_wp2_with (first | (at_builtin; refine wpList_appN rfl (.tmp 28) (.tmp 31) rfl w3.heap.size _ l rfl w6 hrow0 hkeep [x1] 1 1 rfl wx.heap.size rfl _ hb hcs hal hbs hww ?_; intro v' wy hrow' gy hvb; have oy := o.grown gy (fun e => Nat.lt_irrefl _ (hwo _ (hvb _ e.symm).1)); obtain ⟨aoy, capy, rfl⟩ := hrow'.shape) | (refine wpList_put5 rfl (.tmp 2) (.tmp 33) rfl rfl w.heap.size rfl rfl oy ⟨rfl, rfl, rfl, rfl, rfl⟩ ?_; intro wz oz gz))
    refine bodyPost_cell1 (t := 25) rfl rfl rfl oz Tryz.underlying25 rfl (by kernel_rfl) ?_
    replace hR := hR.grown gy (fun k hk => hwg k (hvb k hk).1)
    replace hK := hK.grown gy (fun k hk => Nat.le_of_lt (hwo k (hvb k hk).1))
    have hll : (l ++ [x1]).length = l.length + 1 := by simp
    exact ⟨_, _, _, _, _, rfl, ⟨rfl, ht.2.2.2.1, rfl, rfl, by rw [← hll]; exact (hrow'.grown gz (hwo _ (Nat.le_refl _))).mono (Nat.le_of_lt (hwo _ (Nat.le_refl _)))⟩, (hR).grown gz (some_lt hrl), (hK).grown gz (some_le (Nat.le_refl _))⟩
theorem presults_as {typ : P Tree} {c : Nat} (f : Nat) (hf : f ≤ 100000000) (HT : PartAs 82 typ c) : PartAs 69 (resultsP f typ) (c + 1) := by
  intro w r E d s t s' hR hE hd hm
  have hrl := hR.lt
  have hK := Kp.refl r w
  replace hm := look_some hm
  obtain ⟨k, tx, nn, a, e, ht⟩ := tokIs (nxt E s)
  obtain ⟨q, hq⟩ : ∃ q, isT 4 [⟨#[123]⟩] (nxt E s) = q := ⟨_, rfl⟩
  have hq2 : sg [123] (nxt E s) = q := (isT_sg _ _).symm.trans hq
  rw [hq2] at hm
  clear hq2
  go_enter Tryz.func69, Tryz.ntmps69
  go_upto_region 1 with fail
  have hzo := hR.lt
  have hko := hK.size
  have o := Own.new w #[.int .u8 0, .int .i64 0, .string ⟨#[]⟩, .int .u64 0, .slice none 0 0] 25
  replace hR := hR.alloc (.cells #[.int .u8 0, .int .i64 0, .string ⟨#[]⟩, .int .u64 0, .slice none 0 0] 25)
  replace hK := hK.alloc (.cells #[.int .u8 0, .int .i64 0, .string ⟨#[]⟩, .int .u64 0, .slice none 0 0] 25)
  generalize hw : w.alloc (.cells #[.int .u8 0, .int .i64 0, .string ⟨#[]⟩, .int .u64 0, .slice none 0 0] 25) = w1 at hR hK o ⊢
  clear hw
  have hs1 := o.lt
  go_wp2_with fail
  refine (pnext_as hR hE ht).mono ?_
  rintro en w2 ⟨rfl, hb⟩
  have hR2 := hR.below hb
  have hs2 := (((Kp.refl r w1)).trans (Kp.of hb)).size
  replace o := (o).below hb
  replace hK := (hK).trans (Kp.of hb)
  replace hR := hR2
  clear hb hR2
  go_upto_region 3 with fail
  have hzm1 := hR.lt
  have hkm1 := hK.size
  have m1 := Own.new w2 #[.int .u8 6, .int .i64 a, .string ⟨#[]⟩, .int .u64 0, .slice none 0 0] 25
  replace hR := hR.alloc (.cells #[.int .u8 6, .int .i64 a, .string ⟨#[]⟩, .int .u64 0, .slice none 0 0] 25)
  replace hK := hK.alloc (.cells #[.int .u8 6, .int .i64 a, .string ⟨#[]⟩, .int .u64 0, .slice none 0 0] 25)
  replace o := o.alloc (.cells #[.int .u8 6, .int .i64 a, .string ⟨#[]⟩, .int .u64 0, .slice none 0 0] 25)
  generalize hw : w2.alloc (.cells #[.int .u8 6, .int .i64 a, .string ⟨#[]⟩, .int .u64 0, .slice none 0 0] 25) = w3 at hR hK m1 o ⊢
  clear hw
  have hs3 := m1.lt
  go_wp2_with fail
  refine (psign_as (hR.alloc _) hE (xs := [⟨#[123]⟩]) (Own.new w3 _ _) 1 rfl (by omega) q hq).mono ?_
  rintro en w4 ⟨rfl, hR2, hb⟩
  have hs4 := (((Kp.refl r w3).alloc _).trans (Kp.of hb)).size
  replace o := (o.alloc _).below hb
  replace m1 := (m1.alloc _).below hb
  replace hK := (hK.alloc _).trans (Kp.of hb)
  replace hR := hR2
  clear hb hR2
  clear hq
  cases q with
  | true =>
    rw [if_pos rfl] at hm
    obtain ⟨rfl, rfl⟩ := ret_some hm
    obtain ⟨m10, m11, m12, m13, m14, m1f⟩ := m1.five
    go_wp2_with (refine wpList_put5 rfl (.tmp 2) (.tmp 33) rfl rfl w.heap.size rfl rfl (o) ⟨rfl, rfl, rfl, rfl, rfl⟩ ?_; intro wz oz gz)
    refine bodyPost_cell1 (t := 25) rfl rfl rfl oz Tryz.underlying25 rfl (by kernel_rfl) ?_
    exact ⟨_, _, _, _, _, rfl, ⟨rfl, ht.2.2.2.1, rfl, rfl, Row.nil _ _⟩, (hR).grown gz (some_lt (by omega)), (hK).grown gz (some_le (by omega))⟩
  | false =>
    rw [if_neg (by simp)] at hm
    obtain ⟨q, hq⟩ : ∃ q, isT 4 [⟨#[40]⟩] (nxt E s) = q := ⟨_, rfl⟩
    have hq2 : sg [40] (nxt E s) = q := (isT_sg _ _).symm.trans hq
    rw [hq2] at hm
    clear hq2
    go_wp2_with fail
    refine (psign_as (hR.alloc _) hE (xs := [⟨#[40]⟩]) (Own.new w4 _ _) 1 rfl (by omega) q hq).mono ?_
    rintro en w5 ⟨rfl, hR2, hb⟩
    have hs5 := (((Kp.refl r w4).alloc _).trans (Kp.of hb)).size
    replace o := (o.alloc _).below hb
    replace m1 := (m1.alloc _).below hb
    replace hK := (hK.alloc _).trans (Kp.of hb)
    replace hR := hR2
    clear hb hR2
    clear hq
    cases q with
    | true =>
      rw [if_pos rfl] at hm
      obtain ⟨y, s1, h1, h2⟩ := bnd_some hm
      obtain ⟨rfl, rfl⟩ := ret_some h2
      obtain ⟨tk, s2, h3, h4⟩ := bnd_some h1
      obtain ⟨l, s3, h5, h6⟩ := bnd_some h4
      obtain ⟨tk2, s4, h7, h8⟩ := bnd_some h6
      obtain ⟨rfl, rfl⟩ := ret_some h8
      unfold deeper at h5
      obtain ⟨k', tx', nn', a', e', ht'⟩ := tokIs tk
      clear hm h1 h2 h4 h6 h8
      go_wp2_with fail
      refine (popen_as hR hE (by omega) ⟨#[40]⟩ h3 ht').mono ?_
      rintro en w6 ⟨rfl, hR2, hK2⟩
      have hs6 := (((Kp.refl r w5)).trans hK2).size
      replace o := (o).kp hK2 (by omega)
      replace m1 := (m1).kp hK2 (by omega)
      replace hK := (hK).trans hK2
      replace hR := hR2
      clear hK2 hR2
      go_wp2_with fail
      refine (plist_as fn_typeOf HT f hf _ _ _ _ _ _ _ hR hE (by omega) h5).mono ?_
      rintro en w7 ⟨v2, rfl, hrow, hR2, hK2⟩
      have hs7 := (((Kp.refl r w6)).trans hK2).size
      replace o := (o).kp hK2 (by omega)
      replace m1 := (m1).kp hK2 (by omega)
      replace hK := (hK).trans hK2
      replace hR := hR2
      clear hK2 hR2
      have hrowi := KI.refl w6.heap.size w7.heap.size w7
      obtain ⟨ao, cap, rfl⟩ := hrow.shape
      go_upto_region 7 with (first | (refine wpList_put1nodes rfl (.tmp 30) (.tmp 29) rfl rfl w2.heap.size 4 rfl rfl m1 (by simp) ?_; intro wq0 m1q0 gq0))
      have hs8 := gq0.size
      replace o := o.grown gq0 (some_ne (by omega))
      replace hrowi := hrowi.grown (by omega) gq0 (by omega)
      replace hR := hR.grown gq0 (some_lt (by omega))
      replace hK := hK.grown gq0 (some_le (by omega))
      replace m1 : Own wq0 w2.heap.size #[.int .u8 6, .int .i64 a, .string ⟨#[]⟩, .int .u64 0, .slice ao l.length cap] 25 := m1q0
      clear m1q0 gq0
      generalize hw : wq0 = w8 at *
      clear hw
      go_wp2_with fail
      refine (pshut_as hR hE (by omega) ⟨#[41]⟩ h7).mono ?_
      rintro en w9 ⟨⟨_, rfl⟩, hR2, hK2⟩
      have hs9 := (((Kp.refl r w8)).trans hK2).size
      replace o := (o).kp hK2 (by omega)
      replace m1 := (m1).kp hK2 (by omega)
      replace hrowi := hrowi.kp (by omega) (((Kp.refl r _)).trans hK2) (by omega)
      replace hK := (hK).trans hK2
      replace hR := hR2
      clear hK2 hR2
      obtain ⟨m10, m11, m12, m13, m14, m1f⟩ := m1.five
      go_wp2_with (refine wpList_put5 rfl (.tmp 2) (.tmp 33) rfl rfl w.heap.size rfl rfl (o) ⟨rfl, rfl, rfl, rfl, rfl⟩ ?_; intro wz oz gz)
      refine bodyPost_cell1 (t := 25) rfl rfl rfl oz Tryz.underlying25 rfl (by kernel_rfl) ?_
      exact ⟨_, _, _, _, _, rfl, ⟨rfl, ht.2.2.2.1, rfl, rfl, ((hrow.ki (hrowi.grown (by omega) gz (by omega)) (Nat.le_refl _)).mono (by omega))⟩, (hR).grown gz (some_lt (by omega)), (hK).grown gz (some_le (by omega))⟩
    | false =>
      rw [if_neg (by simp)] at hm
      obtain ⟨m, s1, h1, h2⟩ := bnd_some hm
      obtain ⟨rfl, rfl⟩ := ret_some h2
      clear hm h2
      go_wp2_with fail
      refine (HT _ _ _ _ _ _ _ hR hE (by omega) h1).mono ?_
      rintro en w6 ⟨k1, a1, b1, n1x, v1, rfl, n1, hR2, hK2⟩
      have hs6 := (((Kp.refl r w5)).trans hK2).size
      replace o := (o).kp hK2 (by omega)
      replace m1 := (m1).kp hK2 (by omega)
      replace hK := (hK).trans hK2
      replace hR := hR2
      clear hK2 hR2
      have n1i := KI.refl w5.heap.size w6.heap.size w6
      have hrow := Row.one n1 (Nat.le_refl _) hs6
      clear n1i n1
      replace hR := hR.alloc (.cells #[.int .u8 k1, .int .i64 a1, .string b1, .int .u64 n1x, v1] 25)
      replace hK := hK.alloc (.cells #[.int .u8 k1, .int .i64 a1, .string b1, .int .u64 n1x, v1] 25)
      replace o := o.alloc (.cells #[.int .u8 k1, .int .i64 a1, .string b1, .int .u64 n1x, v1] 25)
      replace m1 := m1.alloc (.cells #[.int .u8 k1, .int .i64 a1, .string b1, .int .u64 n1x, v1] 25)
      have hrowi := KI.refl w5.heap.size (w6.alloc (.cells #[.int .u8 k1, .int .i64 a1, .string b1, .int .u64 n1x, v1] 25)).heap.size (w6.alloc (.cells #[.int .u8 k1, .int .i64 a1, .string b1, .int .u64 n1x, v1] 25))
      have hsx : w6.heap.size < (w6.alloc (.cells #[.int .u8 k1, .int .i64 a1, .string b1, .int .u64 n1x, v1] 25)).heap.size := by rw [World.size_alloc]; omega
      go_upto_region 8 with (first | (refine wpList_put1nodes rfl (.tmp 13) (.tmp 12) rfl rfl w2.heap.size 4 rfl rfl m1 (by simp) ?_; intro wq0 m1q0 gq0))
      have hs7 := gq0.size
      replace o := o.grown gq0 (some_ne (by omega))
      replace hrowi := hrowi.grown (by omega) gq0 (by omega)
      replace hR := hR.grown gq0 (some_lt (by omega))
      replace hK := hK.grown gq0 (some_le (by omega))
      replace m1 : Own wq0 w2.heap.size #[.int .u8 6, .int .i64 a, .string ⟨#[]⟩, .int .u64 0, .slice (some ⟨w6.heap.size, 0, none⟩) 1 1] 25 := m1q0
      clear m1q0 gq0
      generalize hw : wq0 = w7 at *
      clear hw
      obtain ⟨m10, m11, m12, m13, m14, m1f⟩ := m1.five
      go_wp2_with (refine wpList_put5 rfl (.tmp 2) (.tmp 33) rfl rfl w.heap.size rfl rfl (o) ⟨rfl, rfl, rfl, rfl, rfl⟩ ?_; intro wz oz gz)
      refine bodyPost_cell1 (t := 25) rfl rfl rfl oz Tryz.underlying25 rfl (by kernel_rfl) ?_
      exact ⟨_, _, _, _, _, rfl, ⟨rfl, ht.2.2.2.1, rfl, rfl, ((hrow.ki (hrowi.grown (by omega) gz (by omega)) (Nat.le_refl _)).mono (by omega))⟩, (hR).grown gz (some_lt (by omega)), (hK).grown gz (some_le (by omega))⟩
end Go.Proofs.YtmhnbklchnnbaaaGreatDoor
