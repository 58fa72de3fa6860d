import Derived.Test.YtmhnbklchnnbaaaGreatDoorJStmt7
set_option maxHeartbeats 1000000
set_option maxRecDepth 100000
namespace Go.Proofs.YtmhnbklchnnbaaaGreatDoor
open Go.RowKit
set_option linter.unusedVariables false
theorem pbranch_as {rec expr : P Tree} {stmts : P (List Tree)} {c : Nat} (HR : PartAs 107 rec c) (HP : PartAs 37 expr c) (HB : PartAs 70 (blockP stmts) c) : PartAs 107 (branchP rec expr stmts) (c + 1) := by
  intro w r E d s t s' hR hE hd hm
  have hrl := hR.lt
  have hK := Kp.refl r w
  obtain ⟨tk, s1, h1, h2⟩ := bnd_some hm
  obtain ⟨rfl, rfl⟩ := take_some h1
  obtain ⟨x1, s2, h3, h4⟩ := bnd_some h2
  obtain ⟨x2, s3, h5, h6⟩ := bnd_some h4
  replace h6 := look_some h6
  obtain ⟨k, tx, nn, a, e, ht⟩ := tokIs (nxt E s)
  obtain ⟨q, hq⟩ : ∃ q, isT 1 [⟨#[101, 108, 115, 101]⟩] (nxt E s3) = q := ⟨_, rfl⟩
  have hq2 : wd [101, 108, 115, 101] (nxt E s3) = q := (isT_wd _ _).symm.trans hq
  rw [hq2] at h6
  clear hq2 hm h1 h2 h4
  go_enter Tryz.func107, Tryz.ntmps107
  go_upto_region 1 with fail
  have hzo := hR.lt
  have hko := hK.size
  have o := Own.new w #[.int .u8 0, .int .i64 0, .string ⟨#[]⟩, .int .u64 0, .slice none 0 0] 25
  replace hR := hR.alloc (.cells #[.int .u8 0, .int .i64 0, .string ⟨#[]⟩, .int .u64 0, .slice none 0 0] 25)
  replace hK := hK.alloc (.cells #[.int .u8 0, .int .i64 0, .string ⟨#[]⟩, .int .u64 0, .slice none 0 0] 25)
  generalize hw : w.alloc (.cells #[.int .u8 0, .int .i64 0, .string ⟨#[]⟩, .int .u64 0, .slice none 0 0] 25) = w1 at hR hK o ⊢
  clear hw
  have hs1 := o.lt
  go_wp2_with fail
  refine (ptake_as hR hE ht).mono ?_
  rintro en w2 ⟨rfl, hR2, hK2⟩
  have hs2 := (((Kp.refl r w1)).trans hK2).size
  replace o := (o).kp hK2 (by omega)
  replace hK := (hK).trans hK2
  replace hR := hR2
  clear hK2 hR2
  go_wp2_with fail
  refine (HP _ _ _ _ _ _ _ hR hE (by omega) h3).mono ?_
  rintro en w3 ⟨k1, a1, b1, n1x, v1, rfl, n1, hR2, hK2⟩
  have hs3 := (((Kp.refl r w2)).trans hK2).size
  replace o := (o).kp hK2 (by omega)
  replace hK := (hK).trans hK2
  replace hR := hR2
  clear hK2 hR2
  have n1i := KI.refl w2.heap.size w3.heap.size w3
  go_wp2_with fail
  refine (HB _ _ _ _ _ _ _ hR hE (by omega) h5).mono ?_
  rintro en w4 ⟨k2, a2, b2, n2x, v2, rfl, n2, hR2, hK2⟩
  have hs4 := (((Kp.refl r w3)).trans hK2).size
  replace o := (o).kp hK2 (by omega)
  replace n1i := n1i.kp (by omega) (((Kp.refl r _)).trans hK2) (by omega)
  replace hK := (hK).trans hK2
  replace hR := hR2
  clear hK2 hR2
  have n2i := KI.refl w3.heap.size w4.heap.size w4
  have hA := (n1.q.imp (Q' := fun g => w2.heap.size ≤ g ∧ g < w3.heap.size) fun g g1 g2 => ⟨g2, g1⟩).on fun g hg cur ho => (n1i g hg.1 hg.2).trans ho
  have hC := n2.q.imp (Q' := fun g => w2.heap.size ≤ g ∧ w3.heap.size ≤ g) fun g _ g2 => ⟨by omega, g2⟩
  have hrow : Row (w4.alloc (.cells #[.int .u8 k1, .int .i64 a1, .string b1, .int .u64 n1x, v1, .int .u8 k2, .int .i64 a2, .string b2, .int .u64 n2x, v2] 25)) w2.heap.size _ [x1, x2] := RowQ.two w3.heap.size hA hC (by omega)
  clear n1i n2i n1 n2 hA hC
  go_upto_region 3 with fail
  have hsz0 : (w4.alloc (.cells #[.int .u8 k1, .int .i64 a1, .string b1, .int .u64 n1x, v1, .int .u8 k2, .int .i64 a2, .string b2, .int .u64 n2x, v2] 25)).heap.size = w4.heap.size + 1 := World.size_alloc _ _
  replace hR := hR.alloc (.cells #[.int .u8 k1, .int .i64 a1, .string b1, .int .u64 n1x, v1, .int .u8 k2, .int .i64 a2, .string b2, .int .u64 n2x, v2] 25)
  replace hK := hK.alloc (.cells #[.int .u8 k1, .int .i64 a1, .string b1, .int .u64 n1x, v1, .int .u8 k2, .int .i64 a2, .string b2, .int .u64 n2x, v2] 25)
  replace o := o.alloc (.cells #[.int .u8 k1, .int .i64 a1, .string b1, .int .u64 n1x, v1, .int .u8 k2, .int .i64 a2, .string b2, .int .u64 n2x, v2] 25)
  have m := Own.new (w4.alloc (.cells #[.int .u8 k1, .int .i64 a1, .string b1, .int .u64 n1x, v1, .int .u8 k2, .int .i64 a2, .string b2, .int .u64 n2x, v2] 25)) #[.int .u8 14, .int .i64 a, .string ⟨#[]⟩, .int .u64 0, .slice (some ⟨w4.heap.size, 0, none⟩) 2 2] 25
  rw [hsz0] at m
  generalize hw : w4.alloc (.cells #[.int .u8 k1, .int .i64 a1, .string b1, .int .u64 n1x, v1, .int .u8 k2, .int .i64 a2, .string b2, .int .u64 n2x, v2] 25) = wb0 at hR hK o hrow hsz0 m ⊢
  clear hw
  have hsx : wb0.heap.size < (wb0.alloc (.cells #[.int .u8 14, .int .i64 a, .string ⟨#[]⟩, .int .u64 0, .slice (some ⟨w4.heap.size, 0, none⟩) 2 2] 25)).heap.size := by rw [World.size_alloc]; omega
  replace hR := hR.alloc (.cells #[.int .u8 14, .int .i64 a, .string ⟨#[]⟩, .int .u64 0, .slice (some ⟨w4.heap.size, 0, none⟩) 2 2] 25)
  replace hK := hK.alloc (.cells #[.int .u8 14, .int .i64 a, .string ⟨#[]⟩, .int .u64 0, .slice (some ⟨w4.heap.size, 0, none⟩) 2 2] 25)
  replace o := o.alloc (.cells #[.int .u8 14, .int .i64 a, .string ⟨#[]⟩, .int .u64 0, .slice (some ⟨w4.heap.size, 0, none⟩) 2 2] 25)
  have hrowi := (KI.refl w2.heap.size wb0.heap.size wb0).alloc (Nat.le_refl _) (.cells #[.int .u8 14, .int .i64 a, .string ⟨#[]⟩, .int .u64 0, .slice (some ⟨w4.heap.size, 0, none⟩) 2 2] 25)
  generalize hw : wb0.alloc (.cells #[.int .u8 14, .int .i64 a, .string ⟨#[]⟩, .int .u64 0, .slice (some ⟨w4.heap.size, 0, none⟩) 2 2] 25) = wb at hR hK o hrowi hsx m ⊢
  clear hw
  clear h3 h5
  skip
  go_wp2_with fail
  refine (pword_as (hR.alloc _) hE (xs := [⟨#[101, 108, 115, 101]⟩]) (Own.new wb _ _) 1 rfl (by omega) q hq).mono ?_
  rintro en w5 ⟨rfl, hR2, hb⟩
  have hs5 := (((Kp.refl r wb).alloc _).trans (Kp.of hb)).size
  replace o := (o.alloc _).below hb
  replace m := (m.alloc _).below hb
  replace hrowi := hrowi.kp (by omega) (((Kp.refl r _).alloc _).trans (Kp.of hb)) (by omega)
  replace hK := (hK.alloc _).trans (Kp.of hb)
  replace hR := hR2
  clear hb hR2
  clear hq
  cases q with
  | false =>
    rw [if_neg (by simp)] at h6
    obtain ⟨rfl, rfl⟩ := ret_some h6
    obtain ⟨m0, m1, m2, m3, m4, mf⟩ := m.five
    go_wp2_with (refine wpList_put5 rfl (.tmp 2) (.tmp 24) rfl rfl w.heap.size rfl rfl (o) ⟨rfl, rfl, rfl, rfl, rfl⟩ ?_; intro wz oz gz)
    refine bodyPost_cell1 (t := 25) rfl rfl rfl oz Tryz.underlying25 rfl (by kernel_rfl) ?_
    exact ⟨_, _, _, _, _, rfl, ⟨rfl, ht.2.2.2.1, rfl, rfl, ((hrow.ki (hrowi.grown (by omega) gz (by omega)) (Nat.le_refl _)).mono (by omega))⟩, (hR).grown gz (some_lt (by omega)), (hK).grown gz (some_le (by omega))⟩
  | true =>
    rw [if_pos rfl] at h6
    obtain ⟨tk2, s4, h7, h8⟩ := bnd_some h6
    obtain ⟨rfl, rfl⟩ := take_some h7
    replace h8 := look_some h8
    obtain ⟨k', tx', nn', a', e', ht'⟩ := tokIs (nxt E s3)
    obtain ⟨q, hq⟩ : ∃ q, isT 1 [⟨#[105, 102]⟩] (nxt E (popS s3)) = q := ⟨_, rfl⟩
    have hq2 : wd [105, 102] (nxt E (popS s3)) = q := (isT_wd _ _).symm.trans hq
    rw [hq2] at h8
    clear hq2 h6 h7
    go_wp2_with fail
    refine (ptake_as hR hE ht').mono ?_
    rintro en w6 ⟨rfl, hR2, hK2⟩
    have hs6 := (((Kp.refl r w5)).trans hK2).size
    replace o := (o).kp hK2 (by omega)
    replace m := (m).kp hK2 (by omega)
    replace hrowi := hrowi.kp (by omega) (((Kp.refl r _)).trans hK2) (by omega)
    replace hK := (hK).trans hK2
    replace hR := hR2
    clear hK2 hR2
    go_upto_region 6 with fail
    have hzp := hR.lt
    have hkp := hK.size
    have p := Own.new w6 #[.int .u8 k', .string tx', .int .u64 nn', .int .i64 a', .int .i64 e'] 77
    replace hR := hR.alloc (.cells #[.int .u8 k', .string tx', .int .u64 nn', .int .i64 a', .int .i64 e'] 77)
    replace hK := hK.alloc (.cells #[.int .u8 k', .string tx', .int .u64 nn', .int .i64 a', .int .i64 e'] 77)
    replace o := o.alloc (.cells #[.int .u8 k', .string tx', .int .u64 nn', .int .i64 a', .int .i64 e'] 77)
    replace m := m.alloc (.cells #[.int .u8 k', .string tx', .int .u64 nn', .int .i64 a', .int .i64 e'] 77)
    replace hrowi := hrowi.alloc (by omega) (.cells #[.int .u8 k', .string tx', .int .u64 nn', .int .i64 a', .int .i64 e'] 77)
    generalize hw : w6.alloc (.cells #[.int .u8 k', .string tx', .int .u64 nn', .int .i64 a', .int .i64 e'] 77) = w7 at hR hK p o m hrowi ⊢
    clear hw
    have hs7 := p.lt
    go_wp2_with fail
    refine (pword_as (hR.alloc _) hE (xs := [⟨#[105, 102]⟩]) (Own.new w7 _ _) 1 rfl (by omega) q hq).mono ?_
    rintro en w8 ⟨rfl, hR2, hb⟩
    have hs8 := (((Kp.refl r w7).alloc _).trans (Kp.of hb)).size
    replace o := (o.alloc _).below hb
    replace m := (m.alloc _).below hb
    replace p := (p.alloc _).below hb
    replace hrowi := hrowi.kp (by omega) (((Kp.refl r _).alloc _).trans (Kp.of hb)) (by omega)
    replace hK := (hK.alloc _).trans (Kp.of hb)
    replace hR := hR2
    clear hb hR2
    clear hq
    cases q with
    | false =>
      rw [if_neg (by simp)] at h8
      obtain ⟨x3, s5, h9, h10⟩ := bnd_some h8
      obtain ⟨rfl, rfl⟩ := ret_some h10
      clear h8 h10
      have hnb := m.lt
      obtain ⟨m0, m1, m2, m3, m4, mf⟩ := m.five
      have hrow2 := hrow.q_ki (x := (w4.heap.size + 1)) hrowi (Nat.le_refl _) (by omega)
      go_wp2_with fail
      have hfx := fn_block
      go_region_law (first | (refine step_call1 (by rfl) 70 (.tmp 37) 58 (by rfl) hfx _ (by rfl) (HB _ r E d _ x3 s5 hR.drew hE (by omega) h9) ?_; rintro en wa7 ⟨k1, a1, b1, n1x, v1, rfl, hN, hR7, hK7⟩; refine ⟨_, rfl, ?_⟩; have n7 := m.drew.kp hK7 (by omega); obtain ⟨nq0, nq1, nq2, nq3, nq4, nqf⟩ := n7.five; have hs7 := hK7.size; rw [World.size_drew] at hs7; have hl7 := n7.lt) | (refine step_appQ (by rfl) (.tmp 36) (.tmp 39) (by rfl) (fun g => w2.heap.size ≤ g ∧ g ≠ (w4.heap.size + 1)) _ [x1, x2] (by rfl) _ (hrow2.on fun g hg cur ho => ho.drew) (fun g cur hg ho => ho.kp (hK7.alloc _) (by omega)) x3 k1 a1 b1 n1x v1 wa7.heap.size (by rfl) (Own.new wa7 _ _) ((hN.q.imp fun g g1 g2 => ⟨g2, by rw [World.size_drew] at g2; exact ⟨by omega, by omega⟩⟩).on fun g hg cur ho => ho.alloc _) (by simp) (by rw [World.size_drew, World.size_alloc]; omega) (by rw [World.size_alloc]; exact ⟨by omega, by omega⟩) ?_; intro ao8 cap8 wa8 hrow8 gz8 hvb8; rw [World.size_drew] at hvb8; have n8 := (n7.alloc _).grown gz8 (fun e => (hvb8 _ e.symm).1.2 rfl); obtain ⟨p0, p1, p2, p3, p4, pf⟩ := n8.five))
      all_goals
        have hll9 : ([x1, x2] ++ [x3]).length = 3 := by simp
        rw [hll9] at hrow8
        have hR9 := ((hR7.alloc (.cells #[.int .u8 k1, .int .i64 a1, .string b1, .int .u64 n1x, v1] 25)).grown gz8 (fun k hk => by have := (hvb8 k hk).1; omega)).set (i := 4) (g := (w4.heap.size + 1)) (by omega) (.slice ao8 (3) cap8)
        have hK9 := (((hK.drew.trans (hK7.alloc (.cells #[.int .u8 k1, .int .i64 a1, .string b1, .int .u64 n1x, v1] 25))).grown gz8 (fun k hk => by have := (hvb8 k hk).1; omega)).set (g := (w4.heap.size + 1)) (.inl (by omega)) 4 (.slice ao8 (3) cap8))
        have o9 := (((o.drew.kp hK7 (by omega)).alloc (.cells #[.int .u8 k1, .int .i64 a1, .string b1, .int .u64 n1x, v1] 25)).grown gz8 (fun e => by have := (hvb8 _ e.symm).1; omega)).other (g' := (w4.heap.size + 1)) (i := 4) (by omega) (.slice ao8 (3) cap8)
        have m9 := n8.set 4 (.slice ao8 (3) cap8)
        have hrow9 : Row _ w2.heap.size _ _ := RowQ.row ((hrow8.on fun g hg cur ho => ho.other (g' := (w4.heap.size + 1)) (i := 4) hg.2 (.slice ao8 (3) cap8)).imp fun g _ h => h.1)
        have hs8 := gz8.size
        rw [World.size_alloc] at hs8
        have hs9 : wa7.heap.size < (wa8.setCell ⟨(w4.heap.size + 1), 4, none⟩ (.slice ao8 (3) cap8)).heap.size := by rw [World.size_setCell]; omega
        generalize hw : wa8.setCell ⟨(w4.heap.size + 1), 4, none⟩ (.slice ao8 (3) cap8) = wa9 at hR9 hK9 hrow9 hs9 m9 o9 ⊢
        clear hw hrow8 gz8 hvb8 n8 p0 p1 p2 p3 p4 pf hN hR7 hK7 n7 nq0 nq1 nq2 nq3 nq4 nqf hrow2 m0 m1 m2 m3 m4 mf
        replace hR := hR9
        replace hK := hK9
        clear hR9 hK9
        replace o := o9
        clear o9
        replace m : Own wa9 (w4.heap.size + 1) #[.int .u8 14, .int .i64 a, .string ⟨#[]⟩, .int .u64 0, .slice ao8 (3) cap8] 25 := m9
        clear m9
        clear hrow hrowi
        have hrow := hrow9
        clear hrow9
        have hrowi := KI.refl w2.heap.size wa9.heap.size wa9
        obtain ⟨m0, m1, m2, m3, m4, mf⟩ := m.five
        go_wp2_with (refine wpList_put5 rfl (.tmp 2) (.tmp 42) rfl rfl w.heap.size rfl rfl (o) ⟨rfl, rfl, rfl, rfl, rfl⟩ ?_; intro wz oz gz)
        refine bodyPost_cell1 (t := 25) rfl rfl rfl oz Tryz.underlying25 rfl (by kernel_rfl) ?_
        exact ⟨_, _, _, _, _, rfl, ⟨rfl, ht.2.2.2.1, rfl, rfl, ((hrow.ki (hrowi.grown (by omega) gz (by omega)) (Nat.le_refl _)).mono (by omega))⟩, (hR).grown gz (some_lt (by omega)), (hK).grown gz (some_le (by omega))⟩
    | true =>
      rw [if_pos rfl] at h8
      obtain ⟨x3, s5, h9, h10⟩ := bnd_some h8
      obtain ⟨rfl, rfl⟩ := ret_some h10
      unfold deeper at h9
      clear h8 h10
      obtain ⟨p0, p1, p2, p3, p4, pf⟩ := p.five
      go_wp2_with fail
      refine (penter_as hR (by omega) ht').mono ?_
      rintro en w9 ⟨⟨_, rfl⟩, hR2, hK2⟩
      have hs9 := (((Kp.refl r w8)).trans hK2).size
      replace o := (o).kp hK2 (by omega)
      replace m := (m).kp hK2 (by omega)
      replace p := (p).kp hK2 (by omega)
      replace hrowi := hrowi.kp (by omega) (((Kp.refl r _)).trans hK2) (by omega)
      replace hK := (hK).trans hK2
      replace hR := hR2
      clear hK2 hR2
      clear p0 p1 p2 p3 p4 pf
      have hnb := m.lt
      obtain ⟨m0, m1, m2, m3, m4, mf⟩ := m.five
      have hrow2 := hrow.q_ki (x := (w4.heap.size + 1)) hrowi (Nat.le_refl _) (by omega)
      go_wp2_with fail
      have hfx := fn_branch
      go_region_law (first | (refine step_call1 (by rfl) 107 (.tmp 48) 58 (by rfl) hfx _ (by rfl) (HR _ r E (d + 1) _ x3 s5 hR.drew hE (by omega) h9) ?_; rintro en wa7 ⟨k1, a1, b1, n1x, v1, rfl, hN, hR7, hK7⟩; refine ⟨_, rfl, ?_⟩; have n7 := m.drew.kp hK7 (by omega); obtain ⟨nq0, nq1, nq2, nq3, nq4, nqf⟩ := n7.five; have hs7 := hK7.size; rw [World.size_drew] at hs7; have hl7 := n7.lt) | (refine step_appQ (by rfl) (.tmp 47) (.tmp 50) (by rfl) (fun g => w2.heap.size ≤ g ∧ g ≠ (w4.heap.size + 1)) _ [x1, x2] (by rfl) _ (hrow2.on fun g hg cur ho => ho.drew) (fun g cur hg ho => ho.kp (hK7.alloc _) (by omega)) x3 k1 a1 b1 n1x v1 wa7.heap.size (by rfl) (Own.new wa7 _ _) ((hN.q.imp fun g g1 g2 => ⟨g2, by rw [World.size_drew] at g2; exact ⟨by omega, by omega⟩⟩).on fun g hg cur ho => ho.alloc _) (by simp) (by rw [World.size_drew, World.size_alloc]; omega) (by rw [World.size_alloc]; exact ⟨by omega, by omega⟩) ?_; intro ao8 cap8 wa8 hrow8 gz8 hvb8; rw [World.size_drew] at hvb8; have n8 := (n7.alloc _).grown gz8 (fun e => (hvb8 _ e.symm).1.2 rfl); obtain ⟨p0, p1, p2, p3, p4, pf⟩ := n8.five))
      all_goals
        have hll9 : ([x1, x2] ++ [x3]).length = 3 := by simp
        rw [hll9] at hrow8
        have hR9 := ((hR7.alloc (.cells #[.int .u8 k1, .int .i64 a1, .string b1, .int .u64 n1x, v1] 25)).grown gz8 (fun k hk => by have := (hvb8 k hk).1; omega)).set (i := 4) (g := (w4.heap.size + 1)) (by omega) (.slice ao8 (3) cap8)
        have hK9 := (((hK.drew.trans (hK7.alloc (.cells #[.int .u8 k1, .int .i64 a1, .string b1, .int .u64 n1x, v1] 25))).grown gz8 (fun k hk => by have := (hvb8 k hk).1; omega)).set (g := (w4.heap.size + 1)) (.inl (by omega)) 4 (.slice ao8 (3) cap8))
        have o9 := (((o.drew.kp hK7 (by omega)).alloc (.cells #[.int .u8 k1, .int .i64 a1, .string b1, .int .u64 n1x, v1] 25)).grown gz8 (fun e => by have := (hvb8 _ e.symm).1; omega)).other (g' := (w4.heap.size + 1)) (i := 4) (by omega) (.slice ao8 (3) cap8)
        have m9 := n8.set 4 (.slice ao8 (3) cap8)
        have hrow9 : Row _ w2.heap.size _ _ := RowQ.row ((hrow8.on fun g hg cur ho => ho.other (g' := (w4.heap.size + 1)) (i := 4) hg.2 (.slice ao8 (3) cap8)).imp fun g _ h => h.1)
        have hs8 := gz8.size
        rw [World.size_alloc] at hs8
        have hs9 : wa7.heap.size < (wa8.setCell ⟨(w4.heap.size + 1), 4, none⟩ (.slice ao8 (3) cap8)).heap.size := by rw [World.size_setCell]; omega
        generalize hw : wa8.setCell ⟨(w4.heap.size + 1), 4, none⟩ (.slice ao8 (3) cap8) = wa9 at hR9 hK9 hrow9 hs9 m9 o9 ⊢
        clear hw hrow8 gz8 hvb8 n8 p0 p1 p2 p3 p4 pf hN hR7 hK7 n7 nq0 nq1 nq2 nq3 nq4 nqf hrow2 m0 m1 m2 m3 m4 mf
        replace hR := hR9
        replace hK := hK9
        clear hR9 hK9
        replace o := o9
        clear o9
        replace m : Own wa9 (w4.heap.size + 1) #[.int .u8 14, .int .i64 a, .string ⟨#[]⟩, .int .u64 0, .slice ao8 (3) cap8] 25 := m9
        clear m9
        clear hrow hrowi
        have hrow := hrow9
        clear hrow9
        have hrowi := KI.refl w2.heap.size wa9.heap.size wa9
        go_wp2_with fail
        refine (pleave_as hR (by omega)).mono ?_
        rintro en w10 ⟨⟨_, rfl⟩, hR2, hK2⟩
        have hs10 := (((Kp.refl r wa9)).trans hK2).size
        replace o := (o).kp hK2 (by omega)
        replace m := (m).kp hK2 (by omega)
        replace hrowi := hrowi.kp (by omega) (((Kp.refl r _)).trans hK2) (by omega)
        replace hK := (hK).trans hK2
        replace hR := hR2
        clear hK2 hR2
        obtain ⟨m0, m1, m2, m3, m4, mf⟩ := m.five
        go_wp2_with (refine wpList_put5 rfl (.tmp 2) (.tmp 55) rfl rfl w.heap.size rfl rfl (o) ⟨rfl, rfl, rfl, rfl, rfl⟩ ?_; intro wz oz gz)
        refine bodyPost_cell1 (t := 25) rfl rfl rfl oz Tryz.underlying25 rfl (by kernel_rfl) ?_
        exact ⟨_, _, _, _, _, rfl, ⟨rfl, ht.2.2.2.1, rfl, rfl, ((hrow.ki (hrowi.grown (by omega) gz (by omega)) (Nat.le_refl _)).mono (by omega))⟩, (hR).grown gz (some_lt (by omega)), (hK).grown gz (some_le (by omega))⟩
end Go.Proofs.YtmhnbklchnnbaaaGreatDoor
