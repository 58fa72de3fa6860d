import Derived.Test.YtmhnbklchnnbaaaGreatDoorJPart5
import Derived.Laws.AppendOwnNone
set_option maxHeartbeats 1000000
set_option maxRecDepth 100000
namespace Go.Proofs.YtmhnbklchnnbaaaGreatDoor
open Go.RowKit
set_option linter.unusedVariables false
theorem Row.parts {w : World} {B : Nat} {v : Value} {ts : List Tree} (h : Row w B v ts) : (ts = [] ∧ v = .slice none 0 0) ∨ ∃ g cap cur F, v = .slice (some ⟨g, 0, none⟩) ts.length cap ∧ Own w g cur 25 ∧ Cells w ts (cur.toList.take (ts.length * 5)) F ∧ F.Nodup ∧ ∀ g ∈ F, B ≤ g := by
  obtain ⟨xs, F0, F1, h1, h2, h3, h4⟩ := h
  rcases h1.2 with ⟨rfl, h0, _⟩ | ⟨g, cap, cur, rfl, rfl, ho, r1, r2, r3, r4⟩
  · exact .inl ⟨List.eq_nil_of_length_eq_zero h0, rfl⟩
  · rw [List.singleton_append, List.nodup_cons] at h3
    exact .inr ⟨g, cap, cur, F1, rfl, ho, by rw [r4]; exact h2, h3.2, fun b hb => h4 b (by simp [hb])⟩
theorem listL_len {part : P Tree} : ∀ (f : Nat) (acc : List Tree) (E d : Nat) (s : St) (ts : List Tree) (s' : St), listL part f acc E d s = some (ts, s') → ts.length ≤ acc.length + f := by
  intro f
  induction f with
  | zero => intro acc E d s ts s' h; cases h
  | succ f ih =>
    intro acc E d s ts s' h
    unfold listL at h
    replace h := look_some h
    split at h
    · obtain ⟨_, s1, _, h2⟩ := bnd_some h
      obtain ⟨n, s2, _, h3⟩ := bnd_some h2
      have := ih _ _ _ _ _ _ h3
      rw [List.length_append] at this
      simp at this; omega
    · obtain ⟨rfl, _⟩ := ret_some h; omega
theorem perhaps_len {part : P Tree} {f E d : Nat} {s : St} {ts : List Tree} {s' : St} (h : perhaps f part E d s = some (ts, s')) : ts.length ≤ f + 1 := by
  obtain ⟨y, s1, h1, h2⟩ := bnd_some h
  obtain ⟨rfl, _⟩ := ret_some h2
  obtain ⟨tk, s2, h3, h4⟩ := bnd_some h1
  obtain ⟨l, s3, h5, h6⟩ := bnd_some h4
  obtain ⟨tk2, s4, h7, h8⟩ := bnd_some h6
  obtain ⟨rfl, _⟩ := ret_some h8
  unfold deeper at h5
  replace h5 := look_some h5
  split at h5
  · obtain ⟨rfl, _⟩ := ret_some h5; simp
  · obtain ⟨n, s5, h9, h10⟩ := bnd_some h5
    have := listL_len _ _ _ _ _ _ _ h10
    simp at this ⊢; omega
theorem pprimary_as {typ expr : P Tree} {c : Nat} (HT : PartAs 82 typ c) (HP : PartAs 37 expr c) (f : Nat) (hf : f ≤ 100000000) : PartAs 87 (primaryP f typ expr) (c + 1) := by
  intro w r E d s t s' hR hE hd hm
  have hrl := hR.lt
  have hK := Kp.refl r w
  replace hm := look_some hm
  obtain ⟨q, hq⟩ : ∃ q, nu (nxt E s) = q := ⟨_, rfl⟩
  rw [hq] at hm
  obtain ⟨k, tx, nn, a, e, ht⟩ := tokIs (nxt E s)
  go_enter Tryz.func87, Tryz.ntmps87
  go_upto_region 1 with fail
  have hzo := hR.lt
  have hko := hK.size
  have o := Own.new w #[.int .u8 0, .int .i64 0, .string ⟨#[]⟩, .int .u64 0, .slice none 0 0] 25
  replace hR := hR.alloc (.cells #[.int .u8 0, .int .i64 0, .string ⟨#[]⟩, .int .u64 0, .slice none 0 0] 25)
  replace hK := hK.alloc (.cells #[.int .u8 0, .int .i64 0, .string ⟨#[]⟩, .int .u64 0, .slice none 0 0] 25)
  generalize hw : w.alloc (.cells #[.int .u8 0, .int .i64 0, .string ⟨#[]⟩, .int .u64 0, .slice none 0 0] 25) = w1 at hR hK o ⊢
  clear hw
  have hs1 := o.lt
  go_wp2_with fail
  refine (pnumber_as hR hE q hq).mono ?_
  rintro en w2 ⟨rfl, hR2, hb⟩
  have hs2 := (((Kp.refl r w1)).trans (Kp.of hb)).size
  replace o := (o).below hb
  replace hK := (hK).trans (Kp.of hb)
  replace hR := hR2
  clear hb hR2
  clear hq
  cases q with
  | true =>
    rw [if_pos rfl] at hm
    go_wp2_with fail
    refine (pwhole_as _ _ _ _ _ _ _ hR hE (by omega) hm).mono ?_
    rintro en w3 ⟨k1, a1, b1, n1x, v1, rfl, n1, hR2, hK2⟩
    have hs3 := (((Kp.refl r w2)).trans hK2).size
    replace o := (o).kp hK2 (by omega)
    replace hK := (hK).trans hK2
    replace hR := hR2
    clear hK2 hR2
    have n1i := KI.refl w2.heap.size w3.heap.size w3
    go_wp2_with (refine wpList_put5 rfl (.tmp 2) (.tmp 13) rfl rfl w.heap.size rfl rfl (o) ⟨rfl, rfl, rfl, rfl, n1.2.2.2.2.one1⟩ ?_; intro wz oz gz)
    refine bodyPost_cell1 (t := 25) rfl rfl rfl oz Tryz.underlying25 rfl (by kernel_rfl) ?_
    exact ⟨_, _, _, _, _, rfl, (n1.ki (n1i.grown (by omega) gz (by omega)) (Nat.le_refl _)).mono (by omega), (hR).grown gz (some_lt (by omega)), (hK).grown gz (some_le (by omega))⟩
  | false =>
    rw [if_neg (by simp)] at hm
    go_wp2_with fail
    refine (pnext_as hR hE ht).mono ?_
    rintro en w3 ⟨rfl, hb⟩
    have hR2 := hR.below hb
    have hs3 := (((Kp.refl r w2)).trans (Kp.of hb)).size
    replace o := (o).below hb
    replace hK := (hK).trans (Kp.of hb)
    replace hR := hR2
    clear hb hR2
    by_cases hk3 : k = 3
    · have ht1 : ((nxt E s).1 == 3) = true := by have := ht.1; simp; omega
      rw [ht1, if_pos rfl] at hm
      obtain ⟨tk, s1, h1, h2⟩ := bnd_some hm
      obtain ⟨rfl, rfl⟩ := take_some h1
      obtain ⟨rfl, rfl⟩ := ret_some h2
      clear hm h1 h2 ht1
      subst hk3
      go_wp2_with fail
      refine (ptake_as hR hE ht).mono ?_
      rintro en w4 ⟨rfl, hR2, hK2⟩
      have hs4 := (((Kp.refl r w3)).trans hK2).size
      replace o := (o).kp hK2 (by omega)
      replace hK := (hK).trans hK2
      replace hR := hR2
      clear hK2 hR2
      go_upto_region 5 with fail
      have hzp := hR.lt
      have hkp := hK.size
      have p := Own.new w4 #[.int .u8 3, .string tx, .int .u64 nn, .int .i64 a, .int .i64 e] 77
      replace hR := hR.alloc (.cells #[.int .u8 3, .string tx, .int .u64 nn, .int .i64 a, .int .i64 e] 77)
      replace hK := hK.alloc (.cells #[.int .u8 3, .string tx, .int .u64 nn, .int .i64 a, .int .i64 e] 77)
      replace o := o.alloc (.cells #[.int .u8 3, .string tx, .int .u64 nn, .int .i64 a, .int .i64 e] 77)
      generalize hw : w4.alloc (.cells #[.int .u8 3, .string tx, .int .u64 nn, .int .i64 a, .int .i64 e] 77) = w5 at hR hK p o ⊢
      clear hw
      have hs5 := p.lt
      obtain ⟨p0, p1, p2, p3, p4, pf⟩ := p.five
      go_wp2_with (refine wpList_put5 rfl (.tmp 2) (.tmp 29) rfl rfl w.heap.size rfl rfl (o) ⟨rfl, rfl, rfl, rfl, rfl⟩ ?_; intro wz oz gz)
      refine bodyPost_cell1 (t := 25) rfl rfl rfl oz Tryz.underlying25 rfl (by kernel_rfl) ?_
      exact ⟨_, _, _, _, _, rfl, ⟨rfl, ht.2.2.2.1, ht.2.1, rfl, Row.nil _ _⟩, (hR).grown gz (some_lt (by omega)), (hK).grown gz (some_le (by omega))⟩
    · have ht1 : ((nxt E s).1 == 3) = false := by have := ht.1; simp; omega
      have hk4 : (k == 3) = false := by simp; exact hk3
      rw [ht1, if_neg (by simp)] at hm
      clear ht1 hk3
      obtain ⟨q, hq⟩ : ∃ q, isT 4 [⟨#[40]⟩] (nxt E s) = q := ⟨_, rfl⟩
      have hq2 : sg [40] (nxt E s) = q := (isT_sg _ _).symm.trans hq
      rw [hq2] at hm
      clear hq2
      go_wp2_with fail
      refine (psign_as (hR.alloc _) hE (xs := [⟨#[40]⟩]) (Own.new w3 _ _) 1 rfl (by omega) q hq).mono ?_
      rintro en w4 ⟨rfl, hR2, hb⟩
      have hs4 := (((Kp.refl r w3).alloc _).trans (Kp.of hb)).size
      replace o := (o.alloc _).below hb
      replace hK := (hK.alloc _).trans (Kp.of hb)
      replace hR := hR2
      clear hb hR2
      clear hq hk4
      cases q with
      | true =>
        rw [if_pos rfl] at hm
        obtain ⟨y, s1, h1, h2⟩ := bnd_some hm
        obtain ⟨rfl, rfl⟩ := ret_some h2
        obtain ⟨tk, s2, h3, h4⟩ := bnd_some h1
        obtain ⟨m, s3, h5, h6⟩ := bnd_some h4
        obtain ⟨tk2, s4, h7, h8⟩ := bnd_some h6
        obtain ⟨rfl, rfl⟩ := ret_some h8
        obtain ⟨k', tx', nn', a', e', ht'⟩ := tokIs tk
        unfold deeper at h5
        clear hm h1 h2 h4 h6 h8
        go_wp2_with fail
        refine (popen_as hR hE (by omega) ⟨#[40]⟩ h3 ht').mono ?_
        rintro en w5 ⟨rfl, hR2, hK2⟩
        have hs5 := (((Kp.refl r w4)).trans hK2).size
        replace o := (o).kp hK2 (by omega)
        replace hK := (hK).trans hK2
        replace hR := hR2
        clear hK2 hR2
        go_wp2_with fail
        refine (HP _ _ _ _ _ _ _ hR hE (by omega) h5).mono ?_
        rintro en w6 ⟨k1, a1, b1, n1x, v1, rfl, n1, hR2, hK2⟩
        obtain ⟨ao_n1, cap_n1, rfl⟩ := n1.2.2.2.2.shape
        have hs6 := (((Kp.refl r w5)).trans hK2).size
        replace o := (o).kp hK2 (by omega)
        replace hK := (hK).trans hK2
        replace hR := hR2
        clear hK2 hR2
        have n1i := KI.refl w5.heap.size w6.heap.size w6
        go_upto_region 9 with fail
        have hzm1 := hR.lt
        have hkm1 := hK.size
        have m1 := Own.new w6 #[.int .u8 k1, .int .i64 a1, .string b1, .int .u64 n1x, .slice ao_n1 m.kids.length cap_n1] 25
        replace hR := hR.alloc (.cells #[.int .u8 k1, .int .i64 a1, .string b1, .int .u64 n1x, .slice ao_n1 m.kids.length cap_n1] 25)
        replace hK := hK.alloc (.cells #[.int .u8 k1, .int .i64 a1, .string b1, .int .u64 n1x, .slice ao_n1 m.kids.length cap_n1] 25)
        replace o := o.alloc (.cells #[.int .u8 k1, .int .i64 a1, .string b1, .int .u64 n1x, .slice ao_n1 m.kids.length cap_n1] 25)
        replace n1i := n1i.alloc (by omega) (.cells #[.int .u8 k1, .int .i64 a1, .string b1, .int .u64 n1x, .slice ao_n1 m.kids.length cap_n1] 25)
        generalize hw : w6.alloc (.cells #[.int .u8 k1, .int .i64 a1, .string b1, .int .u64 n1x, .slice ao_n1 m.kids.length cap_n1] 25) = w7 at hR hK m1 o n1i ⊢
        clear hw
        have hs7 := m1.lt
        go_wp2_with fail
        refine (pshut_as hR hE (by omega) ⟨#[41]⟩ h7).mono ?_
        rintro en w8 ⟨⟨_, rfl⟩, hR2, hK2⟩
        have hs8 := (((Kp.refl r w7)).trans hK2).size
        replace o := (o).kp hK2 (by omega)
        replace m1 := (m1).kp hK2 (by omega)
        replace n1i := n1i.kp (by omega) (((Kp.refl r _)).trans hK2) (by omega)
        replace hK := (hK).trans hK2
        replace hR := hR2
        clear hK2 hR2
        obtain ⟨m10, m11, m12, m13, m14, m1f⟩ := m1.five
        go_wp2_with (refine wpList_put5 rfl (.tmp 2) (.tmp 42) rfl rfl w.heap.size rfl rfl (o) ⟨rfl, rfl, rfl, rfl, rfl⟩ ?_; intro wz oz gz)
        refine bodyPost_cell1 (t := 25) rfl rfl rfl oz Tryz.underlying25 rfl (by kernel_rfl) ?_
        exact ⟨_, _, _, _, _, rfl, (n1.ki (n1i.grown (by omega) gz (by omega)) (Nat.le_refl _)).mono (by omega), (hR).grown gz (some_lt (by omega)), (hK).grown gz (some_le (by omega))⟩
      | false =>
        rw [if_neg (by simp)] at hm
        obtain ⟨q, hq⟩ : ∃ q, isT 1 [⟨#[116, 114, 117, 101]⟩] (nxt E s) = q := ⟨_, rfl⟩
        have hq2 : wd [116, 114, 117, 101] (nxt E s) = q := (isT_wd _ _).symm.trans hq
        rw [hq2] at hm
        clear hq2
        go_wp2_with fail
        refine (pword_as (hR.alloc _) hE (xs := [⟨#[116, 114, 117, 101]⟩]) (Own.new w4 _ _) 1 rfl (by omega) q hq).mono ?_
        rintro en w5 ⟨rfl, hR2, hb⟩
        have hs5 := (((Kp.refl r w4).alloc _).trans (Kp.of hb)).size
        replace o := (o.alloc _).below hb
        replace hK := (hK.alloc _).trans (Kp.of hb)
        replace hR := hR2
        clear hb hR2
        clear hq
        cases q with
        | true =>
          rw [if_pos rfl] at hm
          obtain ⟨tk, s1, h1, h2⟩ := bnd_some hm
          obtain ⟨rfl, rfl⟩ := take_some h1
          obtain ⟨rfl, rfl⟩ := ret_some h2
          clear hm h1 h2
          go_wp2_with fail
          refine (ptake_as hR hE ht).mono ?_
          rintro en w6 ⟨rfl, hR2, hK2⟩
          have hs6 := (((Kp.refl r w5)).trans hK2).size
          replace o := (o).kp hK2 (by omega)
          replace hK := (hK).trans hK2
          replace hR := hR2
          clear hK2 hR2
          go_wp2_with (refine wpList_put5 rfl (.tmp 2) (.tmp 54) rfl rfl w.heap.size rfl rfl (o) ⟨rfl, rfl, rfl, rfl, rfl⟩ ?_; intro wz oz gz)
          refine bodyPost_cell1 (t := 25) rfl rfl rfl oz Tryz.underlying25 rfl (by kernel_rfl) ?_
          exact ⟨_, _, _, _, _, rfl, ⟨rfl, ht.2.2.2.1, rfl, rfl, Row.nil _ _⟩, (hR).grown gz (some_lt (by omega)), (hK).grown gz (some_le (by omega))⟩
        | false =>
          rw [if_neg (by simp)] at hm
          obtain ⟨q, hq⟩ : ∃ q, isT 1 [⟨#[102, 97, 108, 115, 101]⟩] (nxt E s) = q := ⟨_, rfl⟩
          have hq2 : wd [102, 97, 108, 115, 101] (nxt E s) = q := (isT_wd _ _).symm.trans hq
          rw [hq2] at hm
          clear hq2
          go_wp2_with fail
          refine (pword_as (hR.alloc _) hE (xs := [⟨#[102, 97, 108, 115, 101]⟩]) (Own.new w5 _ _) 1 rfl (by omega) q hq).mono ?_
          rintro en w6 ⟨rfl, hR2, hb⟩
          have hs6 := (((Kp.refl r w5).alloc _).trans (Kp.of hb)).size
          replace o := (o.alloc _).below hb
          replace hK := (hK.alloc _).trans (Kp.of hb)
          replace hR := hR2
          clear hb hR2
          clear hq
          cases q with
          | true =>
            rw [if_pos rfl] at hm
            obtain ⟨tk, s1, h1, h2⟩ := bnd_some hm
            obtain ⟨rfl, rfl⟩ := take_some h1
            obtain ⟨rfl, rfl⟩ := ret_some h2
            clear hm h1 h2
            go_wp2_with fail
            refine (ptake_as hR hE ht).mono ?_
            rintro en w7 ⟨rfl, hR2, hK2⟩
            have hs7 := (((Kp.refl r w6)).trans hK2).size
            replace o := (o).kp hK2 (by omega)
            replace hK := (hK).trans hK2
            replace hR := hR2
            clear hK2 hR2
            go_wp2_with (refine wpList_put5 rfl (.tmp 2) (.tmp 66) rfl rfl w.heap.size rfl rfl (o) ⟨rfl, rfl, rfl, rfl, rfl⟩ ?_; intro wz oz gz)
            refine bodyPost_cell1 (t := 25) rfl rfl rfl oz Tryz.underlying25 rfl (by kernel_rfl) ?_
            exact ⟨_, _, _, _, _, rfl, ⟨rfl, ht.2.2.2.1, rfl, rfl, Row.nil _ _⟩, (hR).grown gz (some_lt (by omega)), (hK).grown gz (some_le (by omega))⟩
          | false =>
            rw [if_neg (by simp)] at hm
            obtain ⟨q, hq⟩ : ∃ q, isT 1 [⟨#[110, 101, 119]⟩] (nxt E s) = q := ⟨_, rfl⟩
            have hq2 : wd [110, 101, 119] (nxt E s) = q := (isT_wd _ _).symm.trans hq
            rw [hq2] at hm
            clear hq2
            go_wp2_with fail
            refine (pword_as (hR.alloc _) hE (xs := [⟨#[110, 101, 119]⟩]) (Own.new w6 _ _) 1 rfl (by omega) q hq).mono ?_
            rintro en w7 ⟨rfl, hR2, hb⟩
            have hs7 := (((Kp.refl r w6).alloc _).trans (Kp.of hb)).size
            replace o := (o.alloc _).below hb
            replace hK := (hK.alloc _).trans (Kp.of hb)
            replace hR := hR2
            clear hb hR2
            clear hq
            cases q with
            | true =>
              rw [if_pos rfl] at hm
              obtain ⟨tk, s1, h1, h2⟩ := bnd_some hm
              obtain ⟨rfl, rfl⟩ := take_some h1
              obtain ⟨m, s2, h3, h4⟩ := bnd_some h2
              obtain ⟨l, s3, h5, h6⟩ := bnd_some h4
              obtain ⟨rfl, rfl⟩ := ret_some h6
              clear hm h1 h2 h4 h6
              go_wp2_with fail
              refine (ptake_as hR hE ht).mono ?_
              rintro en w8 ⟨rfl, hR2, hK2⟩
              have hs8 := (((Kp.refl r w7)).trans hK2).size
              replace o := (o).kp hK2 (by omega)
              replace hK := (hK).trans hK2
              replace hR := hR2
              clear hK2 hR2
              go_wp2_with fail
              refine (HT _ _ _ _ _ _ _ hR hE (by omega) h3).mono ?_
              rintro en w9 ⟨k1, a1, b1, n1x, v1, rfl, n1, hR2, hK2⟩
              have hs9 := (((Kp.refl r w8)).trans hK2).size
              replace o := (o).kp hK2 (by omega)
              replace hK := (hK).trans hK2
              replace hR := hR2
              clear hK2 hR2
              have n1i := KI.refl w8.heap.size w9.heap.size w9
              have hrow := Row.one n1 (Nat.le_refl _) hs9
              have hrb := hs9
              clear n1i n1
              go_upto_region 18 with fail
              replace hR := hR.alloc (.cells #[.int .u8 k1, .int .i64 a1, .string b1, .int .u64 n1x, v1] 25)
              replace hK := hK.alloc (.cells #[.int .u8 k1, .int .i64 a1, .string b1, .int .u64 n1x, v1] 25)
              replace o := o.alloc (.cells #[.int .u8 k1, .int .i64 a1, .string b1, .int .u64 n1x, v1] 25)
              have hs10 : w9.heap.size < (w9.alloc (.cells #[.int .u8 k1, .int .i64 a1, .string b1, .int .u64 n1x, v1] 25)).heap.size := by rw [World.size_alloc]; omega
              generalize hw : w9.alloc (.cells #[.int .u8 k1, .int .i64 a1, .string b1, .int .u64 n1x, v1] 25) = w10 at hR hK o hrow hs10 ⊢
              clear hw
              have hrow0 := hrow
              go_wp2_with fail
              refine (pperhaps_as fn_expr HP f hf _ _ _ _ _ _ _ hR hE (by omega) h5).mono ?_
              rintro en w11 ⟨v2, rfl, hl, hR2, hK2⟩
              have hKs := hK2
              have hs11 := (((Kp.refl r w10)).trans hK2).size
              replace o := (o).kp hK2 (by omega)
              replace hK := (hK).trans hK2
              replace hR := hR2
              clear hK2 hR2
              have hli := KI.refl w10.heap.size w11.heap.size w11
              have hrk : ∀ (g : Nat) (cur : Array Value), w8.heap.size ≤ g → Own w10 g cur 25 → Own w11 g cur 25 := fun g cur hg ho => ho.kp hKs (by omega)
              have hlen : [m].length + l.length ≤ 1000000000 := by have := perhaps_len h5; simp; omega
              rcases hl.parts with ⟨rfl, rfl⟩ | ⟨g, cap, cur, F, rfl, hgo, hgc, hgn, hgF⟩
              · have hw1 := hrow0.on fun g hg cur ho => hrk g cur hg ho
                obtain ⟨xs, F1, hown, _⟩ := hw1.own
                obtain ⟨i8, hi, _⟩ := info_parts infoN
                go_wp2_with (first | (at_builtin; refine wpList_append_own_none rfl (.tmp 82) (.tmp 84) 23 rfl _ 25 i8 5 Tryz.underlying23 hi _ _ _ rfl hown rfl ?_) | (refine wpList_put5 rfl (.tmp 2) (.tmp 86) rfl rfl w.heap.size rfl rfl o ⟨rfl, rfl, rfl, rfl, rfl⟩ ?_; intro wz oz gz))
                refine bodyPost_cell1 (t := 25) rfl rfl rfl oz Tryz.underlying25 rfl (by kernel_rfl) ?_
                exact ⟨_, _, _, _, _, rfl, ⟨rfl, ht.2.2.2.1, rfl, rfl, (hw1.grown gz (by omega)).mono (by omega)⟩, (hR).grown gz (some_lt (by omega)), (hK).grown gz (some_le (by omega))⟩
              · have hob : ∀ k, w8.heap.size ≤ k → w.heap.size < k := fun k hk => by omega
                have hrr : ∀ k, w8.heap.size ≤ k → r < k := fun k hk => by omega
                have hb1 : w8.heap.size ≤ w10.heap.size := by omega
                have hb2 : w10.heap.size ≤ w11.heap.size := by omega
                go_wp2_with (first | (at_builtin; refine wpList_appN rfl (.tmp 82) (.tmp 84) rfl w8.heap.size _ [m] rfl w10 hrow0 hrk l l.length cap rfl g rfl cur hgo ⟨F, hgc, hgn, hgF⟩ hlen hb1 hb2 ?_; intro v' w' hrow' gy hvb; have oy := o.grown gy (fun e => Nat.lt_irrefl _ (hob _ (hvb _ e.symm).1)); obtain ⟨aoy, capy, rfl⟩ := hrow'.shape) | (refine wpList_put5 rfl (.tmp 2) (.tmp 86) rfl rfl w.heap.size rfl rfl oy ⟨rfl, rfl, rfl, rfl, rfl⟩ ?_; intro wz oz gz))
                refine bodyPost_cell1 (t := 25) rfl rfl rfl oz Tryz.underlying25 rfl (by kernel_rfl) ?_
                replace hR := hR.grown gy (fun k hk => hrr k (hvb k hk).1)
                replace hK := hK.grown gy (fun k hk => Nat.le_of_lt (hob k (hvb k hk).1))
                exact ⟨_, _, _, _, _, rfl, ⟨rfl, ht.2.2.2.1, rfl, rfl, (hrow'.grown gz (by omega)).mono (by omega)⟩, (hR).grown gz (some_lt (by omega)), (hK).grown gz (some_le (by omega))⟩
            | false =>
              rw [if_neg (by simp)] at hm
              go_wp2_with fail
              refine (pgiven_as HP f hf _ _ _ _ _ _ _ hR hE hd hm).mono ?_
              rintro en w8 ⟨k1, a1, b1, n1x, v1, rfl, n1, hR2, hK2⟩
              have hs8 := (((Kp.refl r w7)).trans hK2).size
              replace o := (o).kp hK2 (by omega)
              replace hK := (hK).trans hK2
              replace hR := hR2
              clear hK2 hR2
              have n1i := KI.refl w7.heap.size w8.heap.size w8
              go_wp2_with (refine wpList_put5 rfl (.tmp 2) (.tmp 88) rfl rfl w.heap.size rfl rfl (o) ⟨rfl, rfl, rfl, rfl, n1.2.2.2.2.one1⟩ ?_; intro wz oz gz)
              refine bodyPost_cell1 (t := 25) rfl rfl rfl oz Tryz.underlying25 rfl (by kernel_rfl) ?_
              exact ⟨_, _, _, _, _, rfl, (n1.ki (n1i.grown (by omega) gz (by omega)) (Nat.le_refl _)).mono (by omega), (hR).grown gz (some_lt (by omega)), (hK).grown gz (some_le (by omega))⟩
def RowQ (w : World) (Q : Nat → Prop) (v : Value) (ts : List Tree) : Prop := ∃ xs F0 F1, KRow w v ts.length xs F0 ∧ Cells w ts xs F1 ∧ (F0 ++ F1).Nodup ∧ ∀ g ∈ F0 ++ F1, Q g
def NodeQ (w : World) (Q : Nat → Prop) (t : Tree) (k a : Int) (b : ByteArray) (n : Int) (v : Value) : Prop := k = (t.kind : Int) ∧ a = t.at_ ∧ b = strN t.text ∧ n = (t.n : Int) ∧ RowQ w Q v t.kids
theorem RowQ.on {w w' : World} {Q : Nat → Prop} {v : Value} {ts : List Tree} (h : RowQ w Q v ts) (hk : ∀ g, Q g → ∀ cur, Own w g cur 25 → Own w' g cur 25) : RowQ w' Q v ts := by
  obtain ⟨xs, F0, F1, h1, h2, h3, h4⟩ := h
  exact ⟨xs, F0, F1, h1.on fun g hg => hk g (h4 g (by simp [hg])), Cells.on _ _ _ h2 fun g hg => hk g (h4 g (by simp [hg])), h3, h4⟩
theorem RowQ.imp {w : World} {Q Q' : Nat → Prop} {v : Value} {ts : List Tree} (h : RowQ w Q v ts) (hq : ∀ g, g < w.heap.size → Q g → Q' g) : RowQ w Q' v ts := by
  obtain ⟨xs, F0, F1, h1, h2, h3, h4⟩ := h
  refine ⟨xs, F0, F1, h1, h2, h3, fun g hg => hq g ?_ (h4 g hg)⟩
  rcases List.mem_append.1 hg with hg | hg
  · exact h1.lt g hg
  · exact Cells.lt _ _ _ h2 g hg
theorem NodeQ.on {w w' : World} {Q : Nat → Prop} {t : Tree} {k a : Int} {b : ByteArray} {n : Int} {v : Value} (h : NodeQ w Q t k a b n v) (hk : ∀ g, Q g → ∀ cur, Own w g cur 25 → Own w' g cur 25) : NodeQ w' Q t k a b n v := ⟨h.1, h.2.1, h.2.2.1, h.2.2.2.1, h.2.2.2.2.on hk⟩
theorem NodeQ.imp {w : World} {Q Q' : Nat → Prop} {t : Tree} {k a : Int} {b : ByteArray} {n : Int} {v : Value} (h : NodeQ w Q t k a b n v) (hq : ∀ g, g < w.heap.size → Q g → Q' g) : NodeQ w Q' t k a b n v := ⟨h.1, h.2.1, h.2.2.1, h.2.2.2.1, h.2.2.2.2.imp hq⟩
theorem NodeQ.is {w : World} {B : Nat} {t : Tree} {k a : Int} {b : ByteArray} {n : Int} {v : Value} (h : NodeQ w (fun g => B ≤ g) t k a b n v) : NodeIs w B t k a b n v := h
theorem NodeIs.q {w : World} {B : Nat} {t : Tree} {k a : Int} {b : ByteArray} {n : Int} {v : Value} (h : NodeIs w B t k a b n v) : NodeQ w (fun g => B ≤ g) t k a b n v := h
theorem NodeQ.shape {w : World} {Q : Nat → Prop} {t : Tree} {k a : Int} {b : ByteArray} {n : Int} {v : Value} (h : NodeQ w Q t k a b n v) : ∃ ao cap, v = .slice ao t.kids.length cap := by
  obtain ⟨xs, F0, F1, h1, _⟩ := h.2.2.2.2
  rcases h1.2 with ⟨rfl, h0, _⟩ | ⟨g, cap, cur, rfl, _⟩
  · exact ⟨none, 0, by rw [h0]⟩
  · exact ⟨_, _, rfl⟩
theorem NodeQ.cells {w : World} {Q : Nat → Prop} {t : Tree} {k a : Int} {b : ByteArray} {n : Int} {v : Value} (h : NodeQ w Q t k a b n v) : ∃ F, Cells w [t] [.int .u8 k, .int .i64 a, .string b, .int .u64 n, v] F ∧ F.Nodup ∧ ∀ g ∈ F, Q g := by
  obtain ⟨kk, aa, tx, nn, ks⟩ := t
  obtain ⟨rfl, rfl, rfl, rfl, xs, F0, F1, h1, h2, h3, h4⟩ := h
  exact ⟨F0 ++ F1, cells_cons.2 ⟨v, xs, [], F0, F1, [], rfl, by simp, h1, h2, cells_nil.2 ⟨rfl, rfl⟩⟩, h3, h4⟩
theorem RowQ.of {w : World} {Q : Nat → Prop} {ts : List Tree} {cs : Array Value} {F : List Nat} (h : Cells w ts cs.toList F) (hn : F.Nodup) (hF : ∀ g ∈ F, Q g) (hB : Q w.heap.size) (m : Nat) (hm : ts.length = m) (hmax : m ≤ maxLen) :
    RowQ (w.alloc (.cells cs 25)) Q (.slice (some ⟨w.heap.size, 0, none⟩) m m) ts := by
  have hl := Cells.length _ _ _ h
  rw [Array.length_toList] at hl
  have hlt := Cells.lt _ _ _ h
  refine ⟨cs.toList, [w.heap.size], F, ⟨by rw [Array.length_toList]; exact hl, .inr ⟨w.heap.size, m, cs, by rw [hm], rfl, Own.new w cs 25, by omega, hmax, by rw [hl, hm], ?_⟩⟩, Cells.on _ _ _ h fun g hg cur ho => ho.alloc _, ?_, ?_⟩
  · rw [List.take_of_length_le (by rw [Array.length_toList]; omega)]
  · rw [List.singleton_append, List.nodup_cons]
    exact ⟨fun q => by have := hlt _ q; omega, hn⟩
  · intro g hg
    rw [List.singleton_append, List.mem_cons] at hg
    rcases hg with rfl | hg
    · exact hB
    · exact hF g hg
theorem RowQ.one {w : World} {Q : Nat → Prop} {t : Tree} {k a : Int} {b : ByteArray} {n : Int} {v : Value} (h : NodeQ w Q t k a b n v) (hn : Q w.heap.size) : RowQ (w.alloc (.cells #[.int .u8 k, .int .i64 a, .string b, .int .u64 n, v] 25)) Q (.slice (some ⟨w.heap.size, 0, none⟩) 1 1) [t] := by
  obtain ⟨F, h1, h2, h3⟩ := h.cells
  exact RowQ.of h1 h2 h3 hn 1 rfl (by unfold maxLen; omega)
theorem RowQ.two {w : World} {Q : Nat → Prop} (s : Nat) {t : Tree} {k a : Int} {b : ByteArray} {n : Int} {v : Value} (h : NodeQ w (fun g => Q g ∧ g < s) t k a b n v) {t' : Tree} {k' a' : Int} {b' : ByteArray} {n' : Int} {v' : Value} (h' : NodeQ w (fun g => Q g ∧ s ≤ g) t' k' a' b' n' v') (hn : Q w.heap.size) :
    RowQ (w.alloc (.cells #[.int .u8 k, .int .i64 a, .string b, .int .u64 n, v, .int .u8 k', .int .i64 a', .string b', .int .u64 n', v'] 25)) Q (.slice (some ⟨w.heap.size, 0, none⟩) 2 2) [t, t'] := by
  obtain ⟨F, h1, h2, h3⟩ := h.cells
  obtain ⟨G, k1, k2, k3⟩ := h'.cells
  refine RowQ.of (F := F ++ G) (Cells.append _ _ _ h1 _ _ _ k1) (nodup_apart h2 k2 (fun g hg => (h3 g hg).2) (fun g hg => (k3 g hg).2)) ?_ hn 2 rfl (by unfold maxLen; omega)
  intro g hg
  rcases List.mem_append.1 hg with hg | hg
  · exact (h3 g hg).1
  · exact (k3 g hg).1
theorem Own.other5 {w : World} {g g' : Nat} {cs : Array Value} {t : TypeId} (h : Own w g cs t) (hne : g ≠ g') (b0 b1 b2 b3 b4 : Value) :
    Own (((((w.setCell ⟨g', 0, none⟩ b0).setCell ⟨g', 1, none⟩ b1).setCell ⟨g', 2, none⟩ b2).setCell ⟨g', 3, none⟩ b3).setCell ⟨g', 4, none⟩ b4) g cs t := ((((h.other hne b0).other hne b1).other hne b2).other hne b3).other hne b4
def TailsRel (w : World) (r E d : Nat) (expr : P Tree) (t : Tree) (s' : St) (B g3 g4 : Nat) (g : Nat) (wr : World) : Prop :=
  ∃ (n : Tree) (sl : St) (k a : Int) (b : ByteArray) (nn : Int) (ao : Option Addr) (cap : Nat), tailsL expr g n E d sl = some (t, s') ∧ RdAt wr r E d sl ∧ Own wr g3 #[.int .u8 k, .int .i64 a, .string b, .int .u64 nn, .slice ao n.kids.length cap] 25 ∧ Own wr g4 #[.int .u8 0, .int .i64 0, .string ⟨#[]⟩, .int .u64 0, .slice none 0 0] 25 ∧
    NodeQ wr (fun g => B ≤ g ∧ g ≠ g3 ∧ g ≠ g4) n k a b nn (.slice ao n.kids.length cap) ∧ Kp r w wr ∧ g4 < wr.heap.size
theorem ptails_as {expr : P Tree} {c : Nat} (HP : PartAs 37 expr c) (f : Nat) (hf : f ≤ 100000000) : ∀ (w : World) (r E d : Nat) (s : St) (n t : Tree) (s' : St) (B : Nat) (k a : Int) (b : ByteArray) (nn : Int) (v : Value), RdAt w r E d s → E ≤ 1048576 → d + (c + 1) ≤ 1000000000 → r < B → B ≤ w.heap.size → NodeIs w B n k a b nn v → tailsL expr f n E d s = some (t, s') →
    Calls Tryz.prog 86 #[.pointer (some ⟨r, 0, none⟩), .agg #[.int .u8 k, .int .i64 a, .string b, .int .u64 nn, v]] w fun en w' => ∃ k' a' b' n' v', en = .returned (.agg #[.int .u8 k', .int .i64 a', .string b', .int .u64 n', v']) ∧ NodeIs w' B t k' a' b' n' v' ∧ RdAt w' r E d s' ∧ Kp r w w' := by
  intro w r E d s n t s' B k a b nn v hR hE hd hrB hBw hN hm
  have hrl := hR.lt
  have hK := Kp.refl r w
  obtain ⟨ao, cap, rfl⟩ := hN.q.shape
  go_enter Tryz.func86, Tryz.ntmps86
  go_wp2_with fail
  have m := (Own.new w #[.int .u8 k, .int .i64 a, .string b, .int .u64 nn, .slice ao n.kids.length cap] 25).alloc (.cells #[.int .u8 0, .int .i64 0, .string ⟨#[]⟩, .int .u64 0, .slice none 0 0] 25)
  have o := Own.new (w.alloc (.cells #[.int .u8 k, .int .i64 a, .string b, .int .u64 nn, .slice ao n.kids.length cap] 25)) #[.int .u8 0, .int .i64 0, .string ⟨#[]⟩, .int .u64 0, .slice none 0 0] 25
  replace hR := (hR.alloc (.cells #[.int .u8 k, .int .i64 a, .string b, .int .u64 nn, .slice ao n.kids.length cap] 25)).alloc (.cells #[.int .u8 0, .int .i64 0, .string ⟨#[]⟩, .int .u64 0, .slice none 0 0] 25)
  replace hK := (hK.alloc (.cells #[.int .u8 k, .int .i64 a, .string b, .int .u64 nn, .slice ao n.kids.length cap] 25)).alloc (.cells #[.int .u8 0, .int .i64 0, .string ⟨#[]⟩, .int .u64 0, .slice none 0 0] 25)
  have nq : NodeQ ((w.alloc (.cells #[.int .u8 k, .int .i64 a, .string b, .int .u64 nn, .slice ao n.kids.length cap] 25)).alloc (.cells #[.int .u8 0, .int .i64 0, .string ⟨#[]⟩, .int .u64 0, .slice none 0 0] 25)) (fun g => B ≤ g ∧ g ≠ w.heap.size ∧ g ≠ w.heap.size + 1) n k a b nn (.slice ao n.kids.length cap) := (hN.q.imp fun g h1 h2 => ⟨h2, by omega, by omega⟩).on fun g hg cur ho => (ho.alloc _).alloc _
  rw [World.size_alloc] at o
  have hsz : w.heap.size + 1 < ((w.alloc (.cells #[.int .u8 k, .int .i64 a, .string b, .int .u64 nn, .slice ao n.kids.length cap] 25)).alloc (.cells #[.int .u8 0, .int .i64 0, .string ⟨#[]⟩, .int .u64 0, .slice none 0 0] 25)).heap.size := by rw [World.size_alloc, World.size_alloc]; omega
  generalize hw : (w.alloc (.cells #[.int .u8 k, .int .i64 a, .string b, .int .u64 nn, .slice ao n.kids.length cap] 25)).alloc (.cells #[.int .u8 0, .int .i64 0, .string ⟨#[]⟩, .int .u64 0, .slice none 0 0] 25) = w1 at hR hK m o nq hsz ⊢
  clear hw hN
  go_loopg [] f (fun g wr => TailsRel w r E d expr t s' B w.heap.size (w.heap.size + 1) g wr)
  case atStart => exact ⟨n, s, k, a, b, nn, ao, cap, hm, hR, m, o, nq, hK, hsz⟩
  case round =>
    clear hR hK m o nq hm hsz
    obtain ⟨n, sl, k, a, b, nn, ao, cap, hm, hR, m, o, nq, hK, hsz⟩ := hrel
    cases gk with
    | zero => cases hm
    | succ gk =>
      unfold tailsL at hm
      replace hm := look_some hm
      obtain ⟨q, hq⟩ : ∃ q, isT 4 [⟨#[46]⟩] (nxt E sl) = q := ⟨_, rfl⟩
      have hq2 : sg [46] (nxt E sl) = q := (isT_sg _ _).symm.trans hq
      rw [hq2] at hm
      clear hq2
      go_wp2_with fail
      refine (psign_as (hR.alloc _) hE (xs := [⟨#[46]⟩]) (Own.new wr _ _) 1 rfl (by omega) q hq).mono ?_
      rintro en w2 ⟨rfl, hR2, hb⟩
      have hs2 := (((Kp.refl r wr).alloc _).trans (Kp.of hb)).size
      replace m := (m.alloc _).below hb
      replace o := (o.alloc _).below hb
      replace nq := nq.on fun g hg cur ho => (ho.alloc _).below hb
      replace hK := (hK.alloc _).trans (Kp.of hb)
      replace hR := hR2
      clear hb hR2
      clear hq
      cases q with
      | true =>
        rw [if_pos rfl] at hm
        obtain ⟨tk0, s0, h1, h2⟩ := bnd_some hm
        obtain ⟨rfl, rfl⟩ := take_some h1
        obtain ⟨tk, s1, h3, h4⟩ := bnd_some h2
        obtain ⟨k0, tx0, nn0, a0, e0, ht0⟩ := tokIs (nxt E sl)
        obtain ⟨k1, tx1, nn1, a1, e1, ht1⟩ := tokIs tk
        obtain ⟨q, hq⟩ : ∃ q, nm (nxt E (popS sl)) = q := ⟨_, rfl⟩
        have hn : needT q E d (popS sl) = some (tk, s1) := by rw [← hq]; exact h3
        clear hm h1 h2 h3
        go_wp2_with fail
        refine (ptake_as hR hE ht0).mono ?_
        rintro en w3 ⟨rfl, hR2, hK2⟩
        have hs3 := (((Kp.refl r w2)).trans hK2).size
        replace m := (m).kp hK2 (by omega)
        replace o := (o).kp hK2 (by omega)
        replace nq := nq.on fun g hg cur ho => (ho).kp hK2 (by omega)
        replace hK := (hK).trans hK2
        replace hR := hR2
        clear hK2 hR2
        go_wp2_with fail
        refine (pname_as hR hE q hq).mono ?_
        rintro en w4 ⟨rfl, hR2, hb⟩
        have hs4 := (((Kp.refl r w3)).trans (Kp.of hb)).size
        replace m := (m).below hb
        replace o := (o).below hb
        replace nq := nq.on fun g hg cur ho => (ho).below hb
        replace hK := (hK).trans (Kp.of hb)
        replace hR := hR2
        clear hb hR2
        go_wp2_with fail
        refine (pneed_as hR hE q hn ht1).mono ?_
        rintro en w5 ⟨rfl, hR2, hK2⟩
        have hs5 := (((Kp.refl r w4)).trans hK2).size
        replace m := (m).kp hK2 (by omega)
        replace o := (o).kp hK2 (by omega)
        replace nq := nq.on fun g hg cur ho => (ho).kp hK2 (by omega)
        replace hK := (hK).trans hK2
        replace hR := hR2
        clear hK2 hR2
        clear hq hn
        go_upto_region 5 with fail
        have hzp := hR.lt
        have hkp := hK.size
        have p := Own.new w5 #[.int .u8 k1, .string tx1, .int .u64 nn1, .int .i64 a1, .int .i64 e1] 77
        replace hR := hR.alloc (.cells #[.int .u8 k1, .string tx1, .int .u64 nn1, .int .i64 a1, .int .i64 e1] 77)
        replace hK := hK.alloc (.cells #[.int .u8 k1, .string tx1, .int .u64 nn1, .int .i64 a1, .int .i64 e1] 77)
        replace m := m.alloc (.cells #[.int .u8 k1, .string tx1, .int .u64 nn1, .int .i64 a1, .int .i64 e1] 77)
        replace o := o.alloc (.cells #[.int .u8 k1, .string tx1, .int .u64 nn1, .int .i64 a1, .int .i64 e1] 77)
        replace nq := nq.on fun g hg cur ho => ho.alloc (.cells #[.int .u8 k1, .string tx1, .int .u64 nn1, .int .i64 a1, .int .i64 e1] 77)
        generalize hw : w5.alloc (.cells #[.int .u8 k1, .string tx1, .int .u64 nn1, .int .i64 a1, .int .i64 e1] 77) = w6 at hR hK p m o nq ⊢
        clear hw
        have hs6 := p.lt
        obtain ⟨p0, p1, p2, p3, p4, pf⟩ := p.five
        obtain ⟨m0, m1, m2, m3, m4, mf⟩ := m.five
        have hrow := RowQ.one nq (show B ≤ w6.heap.size ∧ w6.heap.size ≠ w.heap.size ∧ w6.heap.size ≠ w.heap.size + 1 from ⟨by omega, by omega, by omega⟩)
        go_wp2_with (refine wpList_put5 rfl (.tmp 3) (.tmp 30) rfl rfl w.heap.size rfl rfl (m.alloc _) ⟨rfl, rfl, rfl, rfl, rfl⟩ ?_; intro wz oz gz)
        have hR9 := (hR.alloc (.cells #[.int .u8 k, .int .i64 a, .string b, .int .u64 nn, .slice ao n.kids.length cap] 25)).grown gz (some_lt (by omega))
        have hK9 := (hK.alloc (.cells #[.int .u8 k, .int .i64 a, .string b, .int .u64 nn, .slice ao n.kids.length cap] 25)).grown gz (some_le (by omega))
        have o9 := (o.alloc (.cells #[.int .u8 k, .int .i64 a, .string b, .int .u64 nn, .slice ao n.kids.length cap] 25)).grown gz (some_ne (by omega))
        have hs9 := gz.size
        rw [World.size_alloc] at hs9
        have hq9 := hrow.on (w' := wz) fun g hg cur ho => ho.grown gz (some_ne (by omega))
        go_roundg gk
        case rel => exact ⟨⟨48, tk.2.2.2.1, tk.2.1, 0, [n]⟩, s1, _, _, _, _, _, _, h4, hR9, oz, o9, ⟨rfl, ht1.2.2.2.1, ht1.2.1, rfl, hq9⟩, hK9, by omega⟩
        case measure => omega
      | false =>
        rw [if_neg (by simp)] at hm
        obtain ⟨q, hq⟩ : ∃ q, isT 4 [⟨#[91]⟩] (nxt E sl) = q := ⟨_, rfl⟩
        have hq2 : sg [91] (nxt E sl) = q := (isT_sg _ _).symm.trans hq
        rw [hq2] at hm
        clear hq2
        go_wp2_with fail
        refine (psign_as (hR.alloc _) hE (xs := [⟨#[91]⟩]) (Own.new w2 _ _) 1 rfl (by omega) q hq).mono ?_
        rintro en w3 ⟨rfl, hR2, hb⟩
        have hs3 := (((Kp.refl r w2).alloc _).trans (Kp.of hb)).size
        replace m := (m.alloc _).below hb
        replace o := (o.alloc _).below hb
        replace nq := nq.on fun g hg cur ho => (ho.alloc _).below hb
        replace hK := (hK.alloc _).trans (Kp.of hb)
        replace hR := hR2
        clear hb hR2
        clear hq
        cases q with
        | false =>
          rw [if_neg (by simp)] at hm
          obtain ⟨rfl, rfl⟩ := ret_some hm
          obtain ⟨m0, m1, m2, m3, m4, mf⟩ := m.five
          go_wp2_with (refine wpList_put5 rfl (.tmp 4) (.tmp 7) rfl rfl (w.heap.size + 1) rfl rfl (o) ⟨rfl, rfl, rfl, rfl, rfl⟩ ?_; intro wz oz gz)
          refine bodyPost_cell1 (t := 25) rfl rfl rfl oz Tryz.underlying25 rfl (by kernel_rfl) ?_
          exact ⟨_, _, _, _, _, rfl, ((nq.on fun g hg cur ho => ho.grown gz (some_ne (by omega))).imp fun g _ h => h.1).is, hR.grown gz (some_lt (by omega)), hK.grown gz (some_le (by omega))⟩
        | true =>
          rw [if_pos rfl] at hm
          obtain ⟨y, s0, h1, h2⟩ := bnd_some hm
          obtain ⟨tk, s1, h3, h4⟩ := bnd_some h1
          obtain ⟨t1, s2, h5, h6⟩ := bnd_some h4
          obtain ⟨tk2, s3, h7, h8⟩ := bnd_some h6
          obtain ⟨rfl, rfl⟩ := ret_some h8
          unfold deeper at h5
          obtain ⟨k1, tx1, nn1, a1, e1, ht1⟩ := tokIs tk
          clear hm h1 h4 h6 h8
          go_wp2_with fail
          refine (popen_as hR hE (by omega) ⟨#[91]⟩ h3 ht1).mono ?_
          rintro en w4 ⟨rfl, hR2, hK2⟩
          have hs4 := (((Kp.refl r w3)).trans hK2).size
          replace m := (m).kp hK2 (by omega)
          replace o := (o).kp hK2 (by omega)
          replace nq := nq.on fun g hg cur ho => (ho).kp hK2 (by omega)
          replace hK := (hK).trans hK2
          replace hR := hR2
          clear hK2 hR2
          have hfx := fn_expr
          have hms := m.lt
          obtain ⟨m0, m1, m2, m3, m4, mf⟩ := m.five
          go_wp2_with fail
          go_region_law (refine step_call1 (by rfl) 37 (.tmp 42) 58 (by rfl) hfx _ (by rfl) (HP _ r E (d + 1) _ t1 s2 hR.drew hE (by omega) h5) ?_; rintro en w7 ⟨k2, a2, b2, n2, v2, rfl, hN2, hR7, hK7⟩; refine ⟨_, rfl, ?_⟩; obtain ⟨ao2, cap2, rfl⟩ := hN2.q.shape; have m7 := m.drew.kp hK7 (by omega); obtain ⟨y0, y1, y2, y3, y4, yf⟩ := m7.five; have hs7 := hK7.size; rw [World.size_drew] at hs7; have hl7 := m7.lt)
          all_goals
            have hQ7 := ((nq.imp (Q' := fun g => (B ≤ g ∧ g ≠ w.heap.size ∧ g ≠ w.heap.size + 1) ∧ g < w4.heap.size) fun g h1 h2 => ⟨h2, h1⟩).on fun g hg cur ho => (ho.drew.kp hK7 (by omega))).on fun g hg cur ho => ho.other5 (g' := w.heap.size) (by omega) (.int .u8 49) (.int .i64 a1) (.string ⟨#[]⟩) (.int .u64 0) (.slice (some ⟨w7.heap.size, 0, none⟩) 2 2)
            have hN7 := (hN2.q.imp (Q' := fun g => (B ≤ g ∧ g ≠ w.heap.size ∧ g ≠ w.heap.size + 1) ∧ w4.heap.size ≤ g) fun g _ h => by rw [World.size_drew] at h; exact ⟨⟨by omega, by omega, by omega⟩, h⟩).on fun g hg cur ho => ho.other5 (g' := w.heap.size) (by omega) (.int .u8 49) (.int .i64 a1) (.string ⟨#[]⟩) (.int .u64 0) (.slice (some ⟨w7.heap.size, 0, none⟩) 2 2)
            have hrow := RowQ.two w4.heap.size hQ7 hN7 (by rw [set5_size]; exact ⟨by omega, by omega, by omega⟩)
            rw [set5_size] at hrow
            have hR8 := (hR7.set5 (g := w.heap.size) (by omega) (.int .u8 49) (.int .i64 a1) (.string ⟨#[]⟩) (.int .u64 0) (.slice (some ⟨w7.heap.size, 0, none⟩) 2 2)).alloc (.cells #[.int .u8 k, .int .i64 a, .string b, .int .u64 nn, .slice ao n.kids.length cap, .int .u8 k2, .int .i64 a2, .string b2, .int .u64 n2, .slice ao2 t1.kids.length cap2] 25)
            have hK8 := ((hK.drew.trans hK7).set5 (g := w.heap.size) (.inl (Nat.le_refl _)) (.int .u8 49) (.int .i64 a1) (.string ⟨#[]⟩) (.int .u64 0) (.slice (some ⟨w7.heap.size, 0, none⟩) 2 2)).alloc (.cells #[.int .u8 k, .int .i64 a, .string b, .int .u64 nn, .slice ao n.kids.length cap, .int .u8 k2, .int .i64 a2, .string b2, .int .u64 n2, .slice ao2 t1.kids.length cap2] 25)
            have m8 := (m7.set5 (.int .u8 49) (.int .i64 a1) (.string ⟨#[]⟩) (.int .u64 0) (.slice (some ⟨w7.heap.size, 0, none⟩) 2 2)).alloc (.cells #[.int .u8 k, .int .i64 a, .string b, .int .u64 nn, .slice ao n.kids.length cap, .int .u8 k2, .int .i64 a2, .string b2, .int .u64 n2, .slice ao2 t1.kids.length cap2] 25)
            have o8 := ((o.drew.kp hK7 (by omega)).other5 (g' := w.heap.size) (by omega) (.int .u8 49) (.int .i64 a1) (.string ⟨#[]⟩) (.int .u64 0) (.slice (some ⟨w7.heap.size, 0, none⟩) 2 2)).alloc (.cells #[.int .u8 k, .int .i64 a, .string b, .int .u64 nn, .slice ao n.kids.length cap, .int .u8 k2, .int .i64 a2, .string b2, .int .u64 n2, .slice ao2 t1.kids.length cap2] 25)
            have hs8 : w7.heap.size ≤ (World.alloc (((((w7.setCell ⟨w.heap.size, 0, none⟩ (.int .u8 49)).setCell ⟨w.heap.size, 1, none⟩ (.int .i64 a1)).setCell ⟨w.heap.size, 2, none⟩ (.string ⟨#[]⟩)).setCell ⟨w.heap.size, 3, none⟩ (.int .u64 0)).setCell ⟨w.heap.size, 4, none⟩ (.slice (some ⟨w7.heap.size, 0, none⟩) 2 2)) (.cells #[.int .u8 k, .int .i64 a, .string b, .int .u64 nn, .slice ao n.kids.length cap, .int .u8 k2, .int .i64 a2, .string b2, .int .u64 n2, .slice ao2 t1.kids.length cap2] 25)).heap.size := by rw [World.size_alloc, set5_size]; omega
            generalize hw : World.alloc (((((w7.setCell ⟨w.heap.size, 0, none⟩ (.int .u8 49)).setCell ⟨w.heap.size, 1, none⟩ (.int .i64 a1)).setCell ⟨w.heap.size, 2, none⟩ (.string ⟨#[]⟩)).setCell ⟨w.heap.size, 3, none⟩ (.int .u64 0)).setCell ⟨w.heap.size, 4, none⟩ (.slice (some ⟨w7.heap.size, 0, none⟩) 2 2)) (.cells #[.int .u8 k, .int .i64 a, .string b, .int .u64 nn, .slice ao n.kids.length cap, .int .u8 k2, .int .i64 a2, .string b2, .int .u64 n2, .slice ao2 t1.kids.length cap2] 25) = w8 at hrow hR8 hK8 m8 o8 hs8 ⊢
            clear hw hQ7 hN7 hR7 hK7 m7 y0 y1 y2 y3 y4 yf m0 m1 m2 m3 m4 mf
            go_wp2_with fail
            refine (pshut_as hR8 hE (by omega) ⟨#[93]⟩ h7).mono ?_
            rintro en w9 ⟨⟨_, rfl⟩, hR9, hK9⟩
            have m9 := m8.kp hK9 (by omega)
            have o9 := o8.kp hK9 (by omega)
            have hq9 := hrow.on fun g hg cur ho => ho.kp hK9 (by omega)
            have hs9 := hK9.size
            have hKK := hK8.trans hK9
            go_wp2
            go_roundg gk
            case rel => exact ⟨⟨49, tk.2.2.2.1, [], 0, [n, t1]⟩, _, _, _, _, _, _, _, h2, hR9, m9, o9, ⟨rfl, ht1.2.2.2.1, rfl, rfl, hq9⟩, hKK, by omega⟩
            case measure => omega
end Go.Proofs.YtmhnbklchnnbaaaGreatDoor
