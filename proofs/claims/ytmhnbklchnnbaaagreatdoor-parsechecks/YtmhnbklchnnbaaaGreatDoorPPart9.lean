import Derived.Test.YtmhnbklchnnbaaaGreatDoorJStmt7
set_option maxHeartbeats 4000000
set_option maxRecDepth 100000
namespace Go.Proofs.YtmhnbklchnnbaaaGreatDoor
open Go.RowKit
set_option linter.unusedVariables false
theorem punary_as {rec typ expr : P Tree} {c : Nat} (HU : PartAs 71 rec c) (HT : PartAs 82 typ c) (HP : PartAs 37 expr c) (f : Nat) (hf : f ≤ 100000000) : PartAs 71 (unaryP f rec typ expr) (c + 1) := by
  intro w r E d s t s' hR hE hd hm
  have hrl := hR.lt
  have hK := Kp.refl r w
  replace hm := look_some hm
  obtain ⟨q, hq⟩ : ∃ q, isT 4 [⟨#[45]⟩] (nxt E s) = q := ⟨_, rfl⟩
  have hs1 : sg [45] (nxt E s) = q := (isT_sg _ _).symm.trans hq
  go_enter Tryz.func71, Tryz.ntmps71
  go_upto_region 1 with fail
  have hzo := hR.lt
  have hko := hK.size
  have o := Own.new w #[.int .u8 0, .int .i64 0, .string ⟨#[]⟩, .int .u64 0, .slice none 0 0] 25
  replace hR := hR.alloc (.cells #[.int .u8 0, .int .i64 0, .string ⟨#[]⟩, .int .u64 0, .slice none 0 0] 25)
  replace hK := hK.alloc (.cells #[.int .u8 0, .int .i64 0, .string ⟨#[]⟩, .int .u64 0, .slice none 0 0] 25)
  generalize hw : w.alloc (.cells #[.int .u8 0, .int .i64 0, .string ⟨#[]⟩, .int .u64 0, .slice none 0 0] 25) = w1 at hR hK o ⊢
  clear hw
  have hs1 := o.lt
  go_wp2_with fail
  refine (psign_as (hR.alloc _) hE (xs := [⟨#[45]⟩]) (Own.new w1 _ _) 1 rfl (by omega) q hq).mono ?_
  rintro en w2 ⟨rfl, hR2, hb⟩
  have hs2 := (((Kp.refl r w1).alloc _).trans (Kp.of hb)).size
  replace o := (o.alloc _).below hb
  replace hK := (hK.alloc _).trans (Kp.of hb)
  replace hR := hR2
  clear hb hR2
  clear hq
  cases q with
  | true =>
    have hsk : signK (nxt E s) = 55 := by unfold signK; rw [hs1]; rfl
    rw [hsk, if_neg (by decide)] at hm
    obtain ⟨tk, s1, h1, h2⟩ := bnd_some hm
    obtain ⟨rfl, rfl⟩ := take_some h1
    obtain ⟨m, s2, h3, h4⟩ := bnd_some h2
    obtain ⟨rfl, rfl⟩ := ret_some h4
    unfold deeper at h3
    obtain ⟨k, tx, nn, a, e, ht⟩ := tokIs (nxt E s)
    clear hm h1 h2 h4
    go_wp2_with fail
    refine (ptake_as hR hE ht).mono ?_
    rintro en w3 ⟨rfl, hR2, hK2⟩
    have hs3 := (((Kp.refl r w2)).trans hK2).size
    replace o := (o).kp hK2 (by omega)
    replace hK := (hK).trans hK2
    replace hR := hR2
    clear hK2 hR2
    go_upto_region 10 with fail
    have hzp := hR.lt
    have hkp := hK.size
    have p := Own.new w3 #[.int .u8 k, .string tx, .int .u64 nn, .int .i64 a, .int .i64 e] 77
    replace hR := hR.alloc (.cells #[.int .u8 k, .string tx, .int .u64 nn, .int .i64 a, .int .i64 e] 77)
    replace hK := hK.alloc (.cells #[.int .u8 k, .string tx, .int .u64 nn, .int .i64 a, .int .i64 e] 77)
    replace o := o.alloc (.cells #[.int .u8 k, .string tx, .int .u64 nn, .int .i64 a, .int .i64 e] 77)
    generalize hw : w3.alloc (.cells #[.int .u8 k, .string tx, .int .u64 nn, .int .i64 a, .int .i64 e] 77) = w4 at hR hK p o ⊢
    clear hw
    have hs4 := p.lt
    obtain ⟨p0, p1, p2, p3, p4, pf⟩ := p.five
    go_wp2_with fail
    refine (penter_as hR (by omega) ht).mono ?_
    rintro en w5 ⟨⟨_, rfl⟩, hR2, hK2⟩
    have hs5 := (((Kp.refl r w4)).trans hK2).size
    replace o := (o).kp hK2 (by omega)
    replace p := (p).kp hK2 (by omega)
    replace hK := (hK).trans hK2
    replace hR := hR2
    clear hK2 hR2
    clear p0 p1 p2 p3 p4 pf
    have hfx := fn_unary
    obtain ⟨p0, p1, p2, p3, p4, pf⟩ := p.five
    have hps := p.lt
    go_wp2_with fail
    have HUg : ∀ W', RdAt W' r E (d + 1) (deepS d (nxt E s) (popS s)) → Calls Tryz.prog 71 #[.pointer (some ⟨r, 0, none⟩)] W' (NodeRet W' r E (d + 1) m s2) := fun W' h => HU W' r E (d + 1) _ m s2 h hE (by omega) h3
    have hnpo : w3.heap.size ≠ w.heap.size := by omega
    have hnpo2 : w.heap.size ≠ w3.heap.size := by omega
    have hnw : w3.heap.size ≠ w5.heap.size := by omega
    have hnw2 : w5.heap.size ≠ w3.heap.size := by omega
    go_region_held3 (fun w' => w'.cell? ⟨w3.heap.size, 3, none⟩ = some (.int .i64 a)) (go_keep) (first | (go_at_call 71; refine (HUg _ (by first | exact hR.drew | exact hR.drew.alloc _)).mono ?_; rintro en wa7 ⟨k2, a2, b2, n2, v2, rfl, hN2, hR7, hK7⟩; obtain ⟨ao2, cap2, rfl⟩ := hN2.q.shape; have p7 : Own wa7 w3.heap.size #[.int .u8 k, .string tx, .int .u64 nn, .int .i64 a, .int .i64 e] 77 := (by first | exact p.drew.kp hK7 (by omega) | exact (p.drew.alloc _).kp hK7 (by omega)); have o7 : Own wa7 w.heap.size #[.int .u8 0, .int .i64 0, .string ⟨#[]⟩, .int .u64 0, .slice none 0 0] 25 := (by first | exact o.drew.kp hK7 (by omega) | exact (o.drew.alloc _).kp hK7 (by omega)); have hKK : Kp r w wa7 := (by first | exact hK.drew.trans hK7 | exact (hK.drew.alloc _).trans hK7); obtain ⟨y0, y1, y2, y3, y4, yf⟩ := p7.five; have hl7 := p7.lt; have hs7 := hK7.size; simp only [World.size_drew, World.size_alloc] at hs7; try (have q7 := (Own.new w5.drew #[.int .u8 0, .int .i64 0, .string ⟨#[]⟩, .int .u64 0, .slice none 0 0] 25).kp hK7 (by rw [World.size_drew]; omega); rw [World.size_drew] at q7; obtain ⟨z0, z1, z2, z3, z4, zf⟩ := q7.five; have hlq := q7.lt)))
    all_goals first
      | (have hN7 := (hN2.q.imp (Q' := fun g => w5.heap.size ≤ g ∧ g ≠ w5.heap.size) fun g g1 g2 => by simp only [World.size_drew, World.size_alloc] at g2; exact ⟨by omega, by omega⟩).on fun g hg cur ho => ho.other5 (g' := w5.heap.size) (by omega) (.int .u8 55) (.int .i64 a) (.string ⟨#[]⟩) (.int .u64 0) (.slice (some ⟨wa7.heap.size, 0, none⟩) 1 1)
         have hrow := RowQ.one hN7 (by rw [set5_size]; exact ⟨by omega, by omega⟩)
         rw [set5_size] at hrow
         have n8 := (q7.set5 (.int .u8 55) (.int .i64 a) (.string ⟨#[]⟩) (.int .u64 0) (.slice (some ⟨wa7.heap.size, 0, none⟩) 1 1)).alloc (.cells #[.int .u8 k2, .int .i64 a2, .string b2, .int .u64 n2, .slice ao2 m.kids.length cap2] 25)
         have hR8 := (hR7.set5 (g := w5.heap.size) (by omega) (.int .u8 55) (.int .i64 a) (.string ⟨#[]⟩) (.int .u64 0) (.slice (some ⟨wa7.heap.size, 0, none⟩) 1 1)).alloc (.cells #[.int .u8 k2, .int .i64 a2, .string b2, .int .u64 n2, .slice ao2 m.kids.length cap2] 25)
         have hK8 := (hKK.set5 (g := w5.heap.size) (.inl (by omega)) (.int .u8 55) (.int .i64 a) (.string ⟨#[]⟩) (.int .u64 0) (.slice (some ⟨wa7.heap.size, 0, none⟩) 1 1)).alloc (.cells #[.int .u8 k2, .int .i64 a2, .string b2, .int .u64 n2, .slice ao2 m.kids.length cap2] 25)
         have o8 := (o7.other5 (g' := w5.heap.size) (by omega) (.int .u8 55) (.int .i64 a) (.string ⟨#[]⟩) (.int .u64 0) (.slice (some ⟨wa7.heap.size, 0, none⟩) 1 1)).alloc (.cells #[.int .u8 k2, .int .i64 a2, .string b2, .int .u64 n2, .slice ao2 m.kids.length cap2] 25)
         have hs8 : wa7.heap.size < (World.alloc (((((wa7.setCell ⟨w5.heap.size, 0, none⟩ (.int .u8 55)).setCell ⟨w5.heap.size, 1, none⟩ (.int .i64 a)).setCell ⟨w5.heap.size, 2, none⟩ (.string ⟨#[]⟩)).setCell ⟨w5.heap.size, 3, none⟩ (.int .u64 0)).setCell ⟨w5.heap.size, 4, none⟩ (.slice (some ⟨wa7.heap.size, 0, none⟩) 1 1)) (.cells #[.int .u8 k2, .int .i64 a2, .string b2, .int .u64 n2, .slice ao2 m.kids.length cap2] 25)).heap.size := by rw [World.size_alloc, set5_size]; omega
         generalize hw : World.alloc (((((wa7.setCell ⟨w5.heap.size, 0, none⟩ (.int .u8 55)).setCell ⟨w5.heap.size, 1, none⟩ (.int .i64 a)).setCell ⟨w5.heap.size, 2, none⟩ (.string ⟨#[]⟩)).setCell ⟨w5.heap.size, 3, none⟩ (.int .u64 0)).setCell ⟨w5.heap.size, 4, none⟩ (.slice (some ⟨wa7.heap.size, 0, none⟩) 1 1)) (.cells #[.int .u8 k2, .int .i64 a2, .string b2, .int .u64 n2, .slice ao2 m.kids.length cap2] 25) = wa8 at hrow hR8 hK8 o8 n8 hs8 ⊢
         clear hw
         go_wp2_with fail
         refine (pleave_as hR8 (by omega)).mono ?_
         rintro en wa9 ⟨⟨_, rfl⟩, hR9, hK9⟩
         have n9 := n8.kp hK9 (by omega)
         have o9 := o8.kp hK9 (by omega)
         have hrow9 := hrow.on fun g hg cur ho => ho.kp hK9 (by omega)
         have hK10 := hK8.trans hK9
         obtain ⟨t0, t1, t2, t3, t4, tf⟩ := n9.five
         go_wp2_with (refine wpList_put5 rfl (.tmp 2) (.tmp 44) rfl rfl w.heap.size rfl rfl o9 ⟨rfl, rfl, rfl, rfl, rfl⟩ ?_; intro wz oz gz)
         refine bodyPost_cell1 (t := 25) rfl rfl rfl oz Tryz.underlying25 rfl (by kernel_rfl) ?_
         have hrow10 : Row wz w.heap.size _ [m] := RowQ.row ((hrow9.on fun g hg cur ho => ho.grown gz (some_ne (by omega))).imp fun g _ h => (by omega : w.heap.size ≤ g))
         exact ⟨_, _, _, _, _, rfl, ⟨rfl, ht.2.2.2.1, rfl, rfl, hrow10⟩, hR9.grown gz (some_lt (by omega)), hK10.grown gz (some_le (by omega))⟩)
      | (have hrow := (RowQ.one (hN2.q.imp (Q' := fun g => w5.heap.size ≤ g ∧ g ≠ (wa7.heap.size + 1)) fun g g1 g2 => by rw [World.size_drew] at g2; exact ⟨by omega, by omega⟩) ⟨by omega, by omega⟩).on fun g hg cur ho => ho.alloc (.cells #[.int .u8 55, .int .i64 a, .string ⟨#[]⟩, .int .u64 0, .slice (some ⟨wa7.heap.size, 0, none⟩) 1 1] 25)
         have n8 := Own.new (wa7.alloc (.cells #[.int .u8 k2, .int .i64 a2, .string b2, .int .u64 n2, .slice ao2 m.kids.length cap2] 25)) #[.int .u8 55, .int .i64 a, .string ⟨#[]⟩, .int .u64 0, .slice (some ⟨wa7.heap.size, 0, none⟩) 1 1] 25
         rw [World.size_alloc] at n8
         have hR8 := (hR7.alloc (.cells #[.int .u8 k2, .int .i64 a2, .string b2, .int .u64 n2, .slice ao2 m.kids.length cap2] 25)).alloc (.cells #[.int .u8 55, .int .i64 a, .string ⟨#[]⟩, .int .u64 0, .slice (some ⟨wa7.heap.size, 0, none⟩) 1 1] 25)
         have hK8 := (hKK.alloc (.cells #[.int .u8 k2, .int .i64 a2, .string b2, .int .u64 n2, .slice ao2 m.kids.length cap2] 25)).alloc (.cells #[.int .u8 55, .int .i64 a, .string ⟨#[]⟩, .int .u64 0, .slice (some ⟨wa7.heap.size, 0, none⟩) 1 1] 25)
         have o8 := (o7.alloc (.cells #[.int .u8 k2, .int .i64 a2, .string b2, .int .u64 n2, .slice ao2 m.kids.length cap2] 25)).alloc (.cells #[.int .u8 55, .int .i64 a, .string ⟨#[]⟩, .int .u64 0, .slice (some ⟨wa7.heap.size, 0, none⟩) 1 1] 25)
         have hs8 : wa7.heap.size + 1 < ((wa7.alloc (.cells #[.int .u8 k2, .int .i64 a2, .string b2, .int .u64 n2, .slice ao2 m.kids.length cap2] 25)).alloc (.cells #[.int .u8 55, .int .i64 a, .string ⟨#[]⟩, .int .u64 0, .slice (some ⟨wa7.heap.size, 0, none⟩) 1 1] 25)).heap.size := by rw [World.size_alloc, World.size_alloc]; omega
         generalize hw : (wa7.alloc (.cells #[.int .u8 k2, .int .i64 a2, .string b2, .int .u64 n2, .slice ao2 m.kids.length cap2] 25)).alloc (.cells #[.int .u8 55, .int .i64 a, .string ⟨#[]⟩, .int .u64 0, .slice (some ⟨wa7.heap.size, 0, none⟩) 1 1] 25) = wa8 at hrow hR8 hK8 o8 n8 hs8 ⊢
         clear hw
         go_wp2_with fail
         refine (pleave_as hR8 (by omega)).mono ?_
         rintro en wa9 ⟨⟨_, rfl⟩, hR9, hK9⟩
         have n9 := n8.kp hK9 (by omega)
         have o9 := o8.kp hK9 (by omega)
         have hrow9 := hrow.on fun g hg cur ho => ho.kp hK9 (by omega)
         have hK10 := hK8.trans hK9
         obtain ⟨t0, t1, t2, t3, t4, tf⟩ := n9.five
         go_wp2_with (refine wpList_put5 rfl (.tmp 2) (.tmp 44) rfl rfl w.heap.size rfl rfl o9 ⟨rfl, rfl, rfl, rfl, rfl⟩ ?_; intro wz oz gz)
         refine bodyPost_cell1 (t := 25) rfl rfl rfl oz Tryz.underlying25 rfl (by kernel_rfl) ?_
         have hrow10 : Row wz w.heap.size _ [m] := RowQ.row ((hrow9.on fun g hg cur ho => ho.grown gz (some_ne (by omega))).imp fun g _ h => (by omega : w.heap.size ≤ g))
         exact ⟨_, _, _, _, _, rfl, ⟨rfl, ht.2.2.2.1, rfl, rfl, hrow10⟩, hR9.grown gz (some_lt (by omega)), hK10.grown gz (some_le (by omega))⟩)
      | (have hN7 := (hN2.q.imp (Q' := fun g => w5.heap.size ≤ g ∧ g ≠ wa7.heap.size) fun g g1 g2 => by rw [World.size_drew] at g2; exact ⟨by omega, by omega⟩).on fun g hg cur ho => ho.alloc (.cells #[.int .u8 55, .int .i64 a, .string ⟨#[]⟩, .int .u64 0, .slice (some ⟨wa7.heap.size + 1, 0, none⟩) 1 1] 25)
         have hrow := RowQ.one hN7 (by rw [World.size_alloc]; exact ⟨by omega, by omega⟩)
         rw [World.size_alloc] at hrow
         have n8 := (Own.new wa7 #[.int .u8 55, .int .i64 a, .string ⟨#[]⟩, .int .u64 0, .slice (some ⟨wa7.heap.size + 1, 0, none⟩) 1 1] 25).alloc (.cells #[.int .u8 k2, .int .i64 a2, .string b2, .int .u64 n2, .slice ao2 m.kids.length cap2] 25)
         have hR8 := (hR7.alloc (.cells #[.int .u8 55, .int .i64 a, .string ⟨#[]⟩, .int .u64 0, .slice (some ⟨wa7.heap.size + 1, 0, none⟩) 1 1] 25)).alloc (.cells #[.int .u8 k2, .int .i64 a2, .string b2, .int .u64 n2, .slice ao2 m.kids.length cap2] 25)
         have hK8 := (hKK.alloc (.cells #[.int .u8 55, .int .i64 a, .string ⟨#[]⟩, .int .u64 0, .slice (some ⟨wa7.heap.size + 1, 0, none⟩) 1 1] 25)).alloc (.cells #[.int .u8 k2, .int .i64 a2, .string b2, .int .u64 n2, .slice ao2 m.kids.length cap2] 25)
         have o8 := (o7.alloc (.cells #[.int .u8 55, .int .i64 a, .string ⟨#[]⟩, .int .u64 0, .slice (some ⟨wa7.heap.size + 1, 0, none⟩) 1 1] 25)).alloc (.cells #[.int .u8 k2, .int .i64 a2, .string b2, .int .u64 n2, .slice ao2 m.kids.length cap2] 25)
         have hs8 : wa7.heap.size + 1 < ((wa7.alloc (.cells #[.int .u8 55, .int .i64 a, .string ⟨#[]⟩, .int .u64 0, .slice (some ⟨wa7.heap.size + 1, 0, none⟩) 1 1] 25)).alloc (.cells #[.int .u8 k2, .int .i64 a2, .string b2, .int .u64 n2, .slice ao2 m.kids.length cap2] 25)).heap.size := by rw [World.size_alloc, World.size_alloc]; omega
         generalize hw : (wa7.alloc (.cells #[.int .u8 55, .int .i64 a, .string ⟨#[]⟩, .int .u64 0, .slice (some ⟨wa7.heap.size + 1, 0, none⟩) 1 1] 25)).alloc (.cells #[.int .u8 k2, .int .i64 a2, .string b2, .int .u64 n2, .slice ao2 m.kids.length cap2] 25) = wa8 at hrow hR8 hK8 o8 n8 hs8 ⊢
         clear hw
         go_wp2_with fail
         refine (pleave_as hR8 (by omega)).mono ?_
         rintro en wa9 ⟨⟨_, rfl⟩, hR9, hK9⟩
         have n9 := n8.kp hK9 (by omega)
         have o9 := o8.kp hK9 (by omega)
         have hrow9 := hrow.on fun g hg cur ho => ho.kp hK9 (by omega)
         have hK10 := hK8.trans hK9
         obtain ⟨t0, t1, t2, t3, t4, tf⟩ := n9.five
         go_wp2_with (refine wpList_put5 rfl (.tmp 2) (.tmp 44) rfl rfl w.heap.size rfl rfl o9 ⟨rfl, rfl, rfl, rfl, rfl⟩ ?_; intro wz oz gz)
         refine bodyPost_cell1 (t := 25) rfl rfl rfl oz Tryz.underlying25 rfl (by kernel_rfl) ?_
         have hrow10 : Row wz w.heap.size _ [m] := RowQ.row ((hrow9.on fun g hg cur ho => ho.grown gz (some_ne (by omega))).imp fun g _ h => (by omega : w.heap.size ≤ g))
         exact ⟨_, _, _, _, _, rfl, ⟨rfl, ht.2.2.2.1, rfl, rfl, hrow10⟩, hR9.grown gz (some_lt (by omega)), hK10.grown gz (some_le (by omega))⟩)
  | false =>
    obtain ⟨q, hq⟩ : ∃ q, isT 4 [⟨#[126]⟩] (nxt E s) = q := ⟨_, rfl⟩
    have hs2 : sg [126] (nxt E s) = q := (isT_sg _ _).symm.trans hq
    go_wp2_with fail
    refine (psign_as (hR.alloc _) hE (xs := [⟨#[126]⟩]) (Own.new w2 _ _) 1 rfl (by omega) q hq).mono ?_
    rintro en w3 ⟨rfl, hR2, hb⟩
    have hs3 := (((Kp.refl r w2).alloc _).trans (Kp.of hb)).size
    replace o := (o.alloc _).below hb
    replace hK := (hK.alloc _).trans (Kp.of hb)
    replace hR := hR2
    clear hb hR2
    clear hq
    cases q with
    | true =>
      have hsk : signK (nxt E s) = 56 := by unfold signK; rw [hs1, hs2]; rfl
      rw [hsk, if_neg (by decide)] at hm
      obtain ⟨tk, s1, h1, h2⟩ := bnd_some hm
      obtain ⟨rfl, rfl⟩ := take_some h1
      obtain ⟨m, s2, h3, h4⟩ := bnd_some h2
      obtain ⟨rfl, rfl⟩ := ret_some h4
      unfold deeper at h3
      obtain ⟨k, tx, nn, a, e, ht⟩ := tokIs (nxt E s)
      clear hm h1 h2 h4
      go_wp2_with fail
      refine (ptake_as hR hE ht).mono ?_
      rintro en w4 ⟨rfl, hR2, hK2⟩
      have hs4 := (((Kp.refl r w3)).trans hK2).size
      replace o := (o).kp hK2 (by omega)
      replace hK := (hK).trans hK2
      replace hR := hR2
      clear hK2 hR2
      go_upto_region 10 with fail
      have hzp := hR.lt
      have hkp := hK.size
      have p := Own.new w4 #[.int .u8 k, .string tx, .int .u64 nn, .int .i64 a, .int .i64 e] 77
      replace hR := hR.alloc (.cells #[.int .u8 k, .string tx, .int .u64 nn, .int .i64 a, .int .i64 e] 77)
      replace hK := hK.alloc (.cells #[.int .u8 k, .string tx, .int .u64 nn, .int .i64 a, .int .i64 e] 77)
      replace o := o.alloc (.cells #[.int .u8 k, .string tx, .int .u64 nn, .int .i64 a, .int .i64 e] 77)
      generalize hw : w4.alloc (.cells #[.int .u8 k, .string tx, .int .u64 nn, .int .i64 a, .int .i64 e] 77) = w5 at hR hK p o ⊢
      clear hw
      have hs5 := p.lt
      obtain ⟨p0, p1, p2, p3, p4, pf⟩ := p.five
      go_wp2_with fail
      refine (penter_as hR (by omega) ht).mono ?_
      rintro en w6 ⟨⟨_, rfl⟩, hR2, hK2⟩
      have hs6 := (((Kp.refl r w5)).trans hK2).size
      replace o := (o).kp hK2 (by omega)
      replace p := (p).kp hK2 (by omega)
      replace hK := (hK).trans hK2
      replace hR := hR2
      clear hK2 hR2
      clear p0 p1 p2 p3 p4 pf
      have hfx := fn_unary
      obtain ⟨p0, p1, p2, p3, p4, pf⟩ := p.five
      have hps := p.lt
      go_wp2_with fail
      have HUg : ∀ W', RdAt W' r E (d + 1) (deepS d (nxt E s) (popS s)) → Calls Tryz.prog 71 #[.pointer (some ⟨r, 0, none⟩)] W' (NodeRet W' r E (d + 1) m s2) := fun W' h => HU W' r E (d + 1) _ m s2 h hE (by omega) h3
      have hnpo : w4.heap.size ≠ w.heap.size := by omega
      have hnpo2 : w.heap.size ≠ w4.heap.size := by omega
      have hnw : w4.heap.size ≠ w6.heap.size := by omega
      have hnw2 : w6.heap.size ≠ w4.heap.size := by omega
      go_region_held3 (fun w' => w'.cell? ⟨w4.heap.size, 3, none⟩ = some (.int .i64 a)) (go_keep) (first | (go_at_call 71; refine (HUg _ (by first | exact hR.drew | exact hR.drew.alloc _)).mono ?_; rintro en wa7 ⟨k2, a2, b2, n2, v2, rfl, hN2, hR7, hK7⟩; obtain ⟨ao2, cap2, rfl⟩ := hN2.q.shape; have p7 : Own wa7 w4.heap.size #[.int .u8 k, .string tx, .int .u64 nn, .int .i64 a, .int .i64 e] 77 := (by first | exact p.drew.kp hK7 (by omega) | exact (p.drew.alloc _).kp hK7 (by omega)); have o7 : Own wa7 w.heap.size #[.int .u8 0, .int .i64 0, .string ⟨#[]⟩, .int .u64 0, .slice none 0 0] 25 := (by first | exact o.drew.kp hK7 (by omega) | exact (o.drew.alloc _).kp hK7 (by omega)); have hKK : Kp r w wa7 := (by first | exact hK.drew.trans hK7 | exact (hK.drew.alloc _).trans hK7); obtain ⟨y0, y1, y2, y3, y4, yf⟩ := p7.five; have hl7 := p7.lt; have hs7 := hK7.size; simp only [World.size_drew, World.size_alloc] at hs7; try (have q7 := (Own.new w6.drew #[.int .u8 0, .int .i64 0, .string ⟨#[]⟩, .int .u64 0, .slice none 0 0] 25).kp hK7 (by rw [World.size_drew]; omega); rw [World.size_drew] at q7; obtain ⟨z0, z1, z2, z3, z4, zf⟩ := q7.five; have hlq := q7.lt)))
      all_goals first
        | (have hN7 := (hN2.q.imp (Q' := fun g => w6.heap.size ≤ g ∧ g ≠ w6.heap.size) fun g g1 g2 => by simp only [World.size_drew, World.size_alloc] at g2; exact ⟨by omega, by omega⟩).on fun g hg cur ho => ho.other5 (g' := w6.heap.size) (by omega) (.int .u8 56) (.int .i64 a) (.string ⟨#[]⟩) (.int .u64 0) (.slice (some ⟨wa7.heap.size, 0, none⟩) 1 1)
           have hrow := RowQ.one hN7 (by rw [set5_size]; exact ⟨by omega, by omega⟩)
           rw [set5_size] at hrow
           have n8 := (q7.set5 (.int .u8 56) (.int .i64 a) (.string ⟨#[]⟩) (.int .u64 0) (.slice (some ⟨wa7.heap.size, 0, none⟩) 1 1)).alloc (.cells #[.int .u8 k2, .int .i64 a2, .string b2, .int .u64 n2, .slice ao2 m.kids.length cap2] 25)
           have hR8 := (hR7.set5 (g := w6.heap.size) (by omega) (.int .u8 56) (.int .i64 a) (.string ⟨#[]⟩) (.int .u64 0) (.slice (some ⟨wa7.heap.size, 0, none⟩) 1 1)).alloc (.cells #[.int .u8 k2, .int .i64 a2, .string b2, .int .u64 n2, .slice ao2 m.kids.length cap2] 25)
           have hK8 := (hKK.set5 (g := w6.heap.size) (.inl (by omega)) (.int .u8 56) (.int .i64 a) (.string ⟨#[]⟩) (.int .u64 0) (.slice (some ⟨wa7.heap.size, 0, none⟩) 1 1)).alloc (.cells #[.int .u8 k2, .int .i64 a2, .string b2, .int .u64 n2, .slice ao2 m.kids.length cap2] 25)
           have o8 := (o7.other5 (g' := w6.heap.size) (by omega) (.int .u8 56) (.int .i64 a) (.string ⟨#[]⟩) (.int .u64 0) (.slice (some ⟨wa7.heap.size, 0, none⟩) 1 1)).alloc (.cells #[.int .u8 k2, .int .i64 a2, .string b2, .int .u64 n2, .slice ao2 m.kids.length cap2] 25)
           have hs8 : wa7.heap.size < (World.alloc (((((wa7.setCell ⟨w6.heap.size, 0, none⟩ (.int .u8 56)).setCell ⟨w6.heap.size, 1, none⟩ (.int .i64 a)).setCell ⟨w6.heap.size, 2, none⟩ (.string ⟨#[]⟩)).setCell ⟨w6.heap.size, 3, none⟩ (.int .u64 0)).setCell ⟨w6.heap.size, 4, none⟩ (.slice (some ⟨wa7.heap.size, 0, none⟩) 1 1)) (.cells #[.int .u8 k2, .int .i64 a2, .string b2, .int .u64 n2, .slice ao2 m.kids.length cap2] 25)).heap.size := by rw [World.size_alloc, set5_size]; omega
           generalize hw : World.alloc (((((wa7.setCell ⟨w6.heap.size, 0, none⟩ (.int .u8 56)).setCell ⟨w6.heap.size, 1, none⟩ (.int .i64 a)).setCell ⟨w6.heap.size, 2, none⟩ (.string ⟨#[]⟩)).setCell ⟨w6.heap.size, 3, none⟩ (.int .u64 0)).setCell ⟨w6.heap.size, 4, none⟩ (.slice (some ⟨wa7.heap.size, 0, none⟩) 1 1)) (.cells #[.int .u8 k2, .int .i64 a2, .string b2, .int .u64 n2, .slice ao2 m.kids.length cap2] 25) = wa8 at hrow hR8 hK8 o8 n8 hs8 ⊢
           clear hw
           go_wp2_with fail
           refine (pleave_as hR8 (by omega)).mono ?_
           rintro en wa9 ⟨⟨_, rfl⟩, hR9, hK9⟩
           have n9 := n8.kp hK9 (by omega)
           have o9 := o8.kp hK9 (by omega)
           have hrow9 := hrow.on fun g hg cur ho => ho.kp hK9 (by omega)
           have hK10 := hK8.trans hK9
           obtain ⟨t0, t1, t2, t3, t4, tf⟩ := n9.five
           go_wp2_with (refine wpList_put5 rfl (.tmp 2) (.tmp 44) rfl rfl w.heap.size rfl rfl o9 ⟨rfl, rfl, rfl, rfl, rfl⟩ ?_; intro wz oz gz)
           refine bodyPost_cell1 (t := 25) rfl rfl rfl oz Tryz.underlying25 rfl (by kernel_rfl) ?_
           have hrow10 : Row wz w.heap.size _ [m] := RowQ.row ((hrow9.on fun g hg cur ho => ho.grown gz (some_ne (by omega))).imp fun g _ h => (by omega : w.heap.size ≤ g))
           exact ⟨_, _, _, _, _, rfl, ⟨rfl, ht.2.2.2.1, rfl, rfl, hrow10⟩, hR9.grown gz (some_lt (by omega)), hK10.grown gz (some_le (by omega))⟩)
        | (have hrow := (RowQ.one (hN2.q.imp (Q' := fun g => w6.heap.size ≤ g ∧ g ≠ (wa7.heap.size + 1)) fun g g1 g2 => by rw [World.size_drew] at g2; exact ⟨by omega, by omega⟩) ⟨by omega, by omega⟩).on fun g hg cur ho => ho.alloc (.cells #[.int .u8 56, .int .i64 a, .string ⟨#[]⟩, .int .u64 0, .slice (some ⟨wa7.heap.size, 0, none⟩) 1 1] 25)
           have n8 := Own.new (wa7.alloc (.cells #[.int .u8 k2, .int .i64 a2, .string b2, .int .u64 n2, .slice ao2 m.kids.length cap2] 25)) #[.int .u8 56, .int .i64 a, .string ⟨#[]⟩, .int .u64 0, .slice (some ⟨wa7.heap.size, 0, none⟩) 1 1] 25
           rw [World.size_alloc] at n8
           have hR8 := (hR7.alloc (.cells #[.int .u8 k2, .int .i64 a2, .string b2, .int .u64 n2, .slice ao2 m.kids.length cap2] 25)).alloc (.cells #[.int .u8 56, .int .i64 a, .string ⟨#[]⟩, .int .u64 0, .slice (some ⟨wa7.heap.size, 0, none⟩) 1 1] 25)
           have hK8 := (hKK.alloc (.cells #[.int .u8 k2, .int .i64 a2, .string b2, .int .u64 n2, .slice ao2 m.kids.length cap2] 25)).alloc (.cells #[.int .u8 56, .int .i64 a, .string ⟨#[]⟩, .int .u64 0, .slice (some ⟨wa7.heap.size, 0, none⟩) 1 1] 25)
           have o8 := (o7.alloc (.cells #[.int .u8 k2, .int .i64 a2, .string b2, .int .u64 n2, .slice ao2 m.kids.length cap2] 25)).alloc (.cells #[.int .u8 56, .int .i64 a, .string ⟨#[]⟩, .int .u64 0, .slice (some ⟨wa7.heap.size, 0, none⟩) 1 1] 25)
           have hs8 : wa7.heap.size + 1 < ((wa7.alloc (.cells #[.int .u8 k2, .int .i64 a2, .string b2, .int .u64 n2, .slice ao2 m.kids.length cap2] 25)).alloc (.cells #[.int .u8 56, .int .i64 a, .string ⟨#[]⟩, .int .u64 0, .slice (some ⟨wa7.heap.size, 0, none⟩) 1 1] 25)).heap.size := by rw [World.size_alloc, World.size_alloc]; omega
           generalize hw : (wa7.alloc (.cells #[.int .u8 k2, .int .i64 a2, .string b2, .int .u64 n2, .slice ao2 m.kids.length cap2] 25)).alloc (.cells #[.int .u8 56, .int .i64 a, .string ⟨#[]⟩, .int .u64 0, .slice (some ⟨wa7.heap.size, 0, none⟩) 1 1] 25) = wa8 at hrow hR8 hK8 o8 n8 hs8 ⊢
           clear hw
           go_wp2_with fail
           refine (pleave_as hR8 (by omega)).mono ?_
           rintro en wa9 ⟨⟨_, rfl⟩, hR9, hK9⟩
           have n9 := n8.kp hK9 (by omega)
           have o9 := o8.kp hK9 (by omega)
           have hrow9 := hrow.on fun g hg cur ho => ho.kp hK9 (by omega)
           have hK10 := hK8.trans hK9
           obtain ⟨t0, t1, t2, t3, t4, tf⟩ := n9.five
           go_wp2_with (refine wpList_put5 rfl (.tmp 2) (.tmp 44) rfl rfl w.heap.size rfl rfl o9 ⟨rfl, rfl, rfl, rfl, rfl⟩ ?_; intro wz oz gz)
           refine bodyPost_cell1 (t := 25) rfl rfl rfl oz Tryz.underlying25 rfl (by kernel_rfl) ?_
           have hrow10 : Row wz w.heap.size _ [m] := RowQ.row ((hrow9.on fun g hg cur ho => ho.grown gz (some_ne (by omega))).imp fun g _ h => (by omega : w.heap.size ≤ g))
           exact ⟨_, _, _, _, _, rfl, ⟨rfl, ht.2.2.2.1, rfl, rfl, hrow10⟩, hR9.grown gz (some_lt (by omega)), hK10.grown gz (some_le (by omega))⟩)
        | (have hN7 := (hN2.q.imp (Q' := fun g => w6.heap.size ≤ g ∧ g ≠ wa7.heap.size) fun g g1 g2 => by rw [World.size_drew] at g2; exact ⟨by omega, by omega⟩).on fun g hg cur ho => ho.alloc (.cells #[.int .u8 56, .int .i64 a, .string ⟨#[]⟩, .int .u64 0, .slice (some ⟨wa7.heap.size + 1, 0, none⟩) 1 1] 25)
           have hrow := RowQ.one hN7 (by rw [World.size_alloc]; exact ⟨by omega, by omega⟩)
           rw [World.size_alloc] at hrow
           have n8 := (Own.new wa7 #[.int .u8 56, .int .i64 a, .string ⟨#[]⟩, .int .u64 0, .slice (some ⟨wa7.heap.size + 1, 0, none⟩) 1 1] 25).alloc (.cells #[.int .u8 k2, .int .i64 a2, .string b2, .int .u64 n2, .slice ao2 m.kids.length cap2] 25)
           have hR8 := (hR7.alloc (.cells #[.int .u8 56, .int .i64 a, .string ⟨#[]⟩, .int .u64 0, .slice (some ⟨wa7.heap.size + 1, 0, none⟩) 1 1] 25)).alloc (.cells #[.int .u8 k2, .int .i64 a2, .string b2, .int .u64 n2, .slice ao2 m.kids.length cap2] 25)
           have hK8 := (hKK.alloc (.cells #[.int .u8 56, .int .i64 a, .string ⟨#[]⟩, .int .u64 0, .slice (some ⟨wa7.heap.size + 1, 0, none⟩) 1 1] 25)).alloc (.cells #[.int .u8 k2, .int .i64 a2, .string b2, .int .u64 n2, .slice ao2 m.kids.length cap2] 25)
           have o8 := (o7.alloc (.cells #[.int .u8 56, .int .i64 a, .string ⟨#[]⟩, .int .u64 0, .slice (some ⟨wa7.heap.size + 1, 0, none⟩) 1 1] 25)).alloc (.cells #[.int .u8 k2, .int .i64 a2, .string b2, .int .u64 n2, .slice ao2 m.kids.length cap2] 25)
           have hs8 : wa7.heap.size + 1 < ((wa7.alloc (.cells #[.int .u8 56, .int .i64 a, .string ⟨#[]⟩, .int .u64 0, .slice (some ⟨wa7.heap.size + 1, 0, none⟩) 1 1] 25)).alloc (.cells #[.int .u8 k2, .int .i64 a2, .string b2, .int .u64 n2, .slice ao2 m.kids.length cap2] 25)).heap.size := by rw [World.size_alloc, World.size_alloc]; omega
           generalize hw : (wa7.alloc (.cells #[.int .u8 56, .int .i64 a, .string ⟨#[]⟩, .int .u64 0, .slice (some ⟨wa7.heap.size + 1, 0, none⟩) 1 1] 25)).alloc (.cells #[.int .u8 k2, .int .i64 a2, .string b2, .int .u64 n2, .slice ao2 m.kids.length cap2] 25) = wa8 at hrow hR8 hK8 o8 n8 hs8 ⊢
           clear hw
           go_wp2_with fail
           refine (pleave_as hR8 (by omega)).mono ?_
           rintro en wa9 ⟨⟨_, rfl⟩, hR9, hK9⟩
           have n9 := n8.kp hK9 (by omega)
           have o9 := o8.kp hK9 (by omega)
           have hrow9 := hrow.on fun g hg cur ho => ho.kp hK9 (by omega)
           have hK10 := hK8.trans hK9
           obtain ⟨t0, t1, t2, t3, t4, tf⟩ := n9.five
           go_wp2_with (refine wpList_put5 rfl (.tmp 2) (.tmp 44) rfl rfl w.heap.size rfl rfl o9 ⟨rfl, rfl, rfl, rfl, rfl⟩ ?_; intro wz oz gz)
           refine bodyPost_cell1 (t := 25) rfl rfl rfl oz Tryz.underlying25 rfl (by kernel_rfl) ?_
           have hrow10 : Row wz w.heap.size _ [m] := RowQ.row ((hrow9.on fun g hg cur ho => ho.grown gz (some_ne (by omega))).imp fun g _ h => (by omega : w.heap.size ≤ g))
           exact ⟨_, _, _, _, _, rfl, ⟨rfl, ht.2.2.2.1, rfl, rfl, hrow10⟩, hR9.grown gz (some_lt (by omega)), hK10.grown gz (some_le (by omega))⟩)
    | false =>
      obtain ⟨q, hq⟩ : ∃ q, isT 4 [⟨#[33]⟩] (nxt E s) = q := ⟨_, rfl⟩
      have hs3 : sg [33] (nxt E s) = q := (isT_sg _ _).symm.trans hq
      go_wp2_with fail
      refine (psign_as (hR.alloc _) hE (xs := [⟨#[33]⟩]) (Own.new w3 _ _) 1 rfl (by omega) q hq).mono ?_
      rintro en w4 ⟨rfl, hR2, hb⟩
      have hs4 := (((Kp.refl r w3).alloc _).trans (Kp.of hb)).size
      replace o := (o.alloc _).below hb
      replace hK := (hK.alloc _).trans (Kp.of hb)
      replace hR := hR2
      clear hb hR2
      clear hq
      cases q with
      | true =>
        have hsk : signK (nxt E s) = 57 := by unfold signK; rw [hs1, hs2, hs3]; rfl
        rw [hsk, if_neg (by decide)] at hm
        obtain ⟨tk, s1, h1, h2⟩ := bnd_some hm
        obtain ⟨rfl, rfl⟩ := take_some h1
        obtain ⟨m, s2, h3, h4⟩ := bnd_some h2
        obtain ⟨rfl, rfl⟩ := ret_some h4
        unfold deeper at h3
        obtain ⟨k, tx, nn, a, e, ht⟩ := tokIs (nxt E s)
        clear hm h1 h2 h4
        go_wp2_with fail
        refine (ptake_as hR hE ht).mono ?_
        rintro en w5 ⟨rfl, hR2, hK2⟩
        have hs5 := (((Kp.refl r w4)).trans hK2).size
        replace o := (o).kp hK2 (by omega)
        replace hK := (hK).trans hK2
        replace hR := hR2
        clear hK2 hR2
        go_upto_region 10 with fail
        have hzp := hR.lt
        have hkp := hK.size
        have p := Own.new w5 #[.int .u8 k, .string tx, .int .u64 nn, .int .i64 a, .int .i64 e] 77
        replace hR := hR.alloc (.cells #[.int .u8 k, .string tx, .int .u64 nn, .int .i64 a, .int .i64 e] 77)
        replace hK := hK.alloc (.cells #[.int .u8 k, .string tx, .int .u64 nn, .int .i64 a, .int .i64 e] 77)
        replace o := o.alloc (.cells #[.int .u8 k, .string tx, .int .u64 nn, .int .i64 a, .int .i64 e] 77)
        generalize hw : w5.alloc (.cells #[.int .u8 k, .string tx, .int .u64 nn, .int .i64 a, .int .i64 e] 77) = w6 at hR hK p o ⊢
        clear hw
        have hs6 := p.lt
        obtain ⟨p0, p1, p2, p3, p4, pf⟩ := p.five
        go_wp2_with fail
        refine (penter_as hR (by omega) ht).mono ?_
        rintro en w7 ⟨⟨_, rfl⟩, hR2, hK2⟩
        have hs7 := (((Kp.refl r w6)).trans hK2).size
        replace o := (o).kp hK2 (by omega)
        replace p := (p).kp hK2 (by omega)
        replace hK := (hK).trans hK2
        replace hR := hR2
        clear hK2 hR2
        clear p0 p1 p2 p3 p4 pf
        have hfx := fn_unary
        obtain ⟨p0, p1, p2, p3, p4, pf⟩ := p.five
        have hps := p.lt
        go_wp2_with fail
        have HUg : ∀ W', RdAt W' r E (d + 1) (deepS d (nxt E s) (popS s)) → Calls Tryz.prog 71 #[.pointer (some ⟨r, 0, none⟩)] W' (NodeRet W' r E (d + 1) m s2) := fun W' h => HU W' r E (d + 1) _ m s2 h hE (by omega) h3
        have hnpo : w5.heap.size ≠ w.heap.size := by omega
        have hnpo2 : w.heap.size ≠ w5.heap.size := by omega
        have hnw : w5.heap.size ≠ w7.heap.size := by omega
        have hnw2 : w7.heap.size ≠ w5.heap.size := by omega
        go_region_held3 (fun w' => w'.cell? ⟨w5.heap.size, 3, none⟩ = some (.int .i64 a)) (go_keep) (first | (go_at_call 71; refine (HUg _ (by first | exact hR.drew | exact hR.drew.alloc _)).mono ?_; rintro en wa7 ⟨k2, a2, b2, n2, v2, rfl, hN2, hR7, hK7⟩; obtain ⟨ao2, cap2, rfl⟩ := hN2.q.shape; have p7 : Own wa7 w5.heap.size #[.int .u8 k, .string tx, .int .u64 nn, .int .i64 a, .int .i64 e] 77 := (by first | exact p.drew.kp hK7 (by omega) | exact (p.drew.alloc _).kp hK7 (by omega)); have o7 : Own wa7 w.heap.size #[.int .u8 0, .int .i64 0, .string ⟨#[]⟩, .int .u64 0, .slice none 0 0] 25 := (by first | exact o.drew.kp hK7 (by omega) | exact (o.drew.alloc _).kp hK7 (by omega)); have hKK : Kp r w wa7 := (by first | exact hK.drew.trans hK7 | exact (hK.drew.alloc _).trans hK7); obtain ⟨y0, y1, y2, y3, y4, yf⟩ := p7.five; have hl7 := p7.lt; have hs7 := hK7.size; simp only [World.size_drew, World.size_alloc] at hs7; try (have q7 := (Own.new w7.drew #[.int .u8 0, .int .i64 0, .string ⟨#[]⟩, .int .u64 0, .slice none 0 0] 25).kp hK7 (by rw [World.size_drew]; omega); rw [World.size_drew] at q7; obtain ⟨z0, z1, z2, z3, z4, zf⟩ := q7.five; have hlq := q7.lt)))
        all_goals first
          | (have hN7 := (hN2.q.imp (Q' := fun g => w7.heap.size ≤ g ∧ g ≠ w7.heap.size) fun g g1 g2 => by simp only [World.size_drew, World.size_alloc] at g2; exact ⟨by omega, by omega⟩).on fun g hg cur ho => ho.other5 (g' := w7.heap.size) (by omega) (.int .u8 57) (.int .i64 a) (.string ⟨#[]⟩) (.int .u64 0) (.slice (some ⟨wa7.heap.size, 0, none⟩) 1 1)
             have hrow := RowQ.one hN7 (by rw [set5_size]; exact ⟨by omega, by omega⟩)
             rw [set5_size] at hrow
             have n8 := (q7.set5 (.int .u8 57) (.int .i64 a) (.string ⟨#[]⟩) (.int .u64 0) (.slice (some ⟨wa7.heap.size, 0, none⟩) 1 1)).alloc (.cells #[.int .u8 k2, .int .i64 a2, .string b2, .int .u64 n2, .slice ao2 m.kids.length cap2] 25)
             have hR8 := (hR7.set5 (g := w7.heap.size) (by omega) (.int .u8 57) (.int .i64 a) (.string ⟨#[]⟩) (.int .u64 0) (.slice (some ⟨wa7.heap.size, 0, none⟩) 1 1)).alloc (.cells #[.int .u8 k2, .int .i64 a2, .string b2, .int .u64 n2, .slice ao2 m.kids.length cap2] 25)
             have hK8 := (hKK.set5 (g := w7.heap.size) (.inl (by omega)) (.int .u8 57) (.int .i64 a) (.string ⟨#[]⟩) (.int .u64 0) (.slice (some ⟨wa7.heap.size, 0, none⟩) 1 1)).alloc (.cells #[.int .u8 k2, .int .i64 a2, .string b2, .int .u64 n2, .slice ao2 m.kids.length cap2] 25)
             have o8 := (o7.other5 (g' := w7.heap.size) (by omega) (.int .u8 57) (.int .i64 a) (.string ⟨#[]⟩) (.int .u64 0) (.slice (some ⟨wa7.heap.size, 0, none⟩) 1 1)).alloc (.cells #[.int .u8 k2, .int .i64 a2, .string b2, .int .u64 n2, .slice ao2 m.kids.length cap2] 25)
             have hs8 : wa7.heap.size < (World.alloc (((((wa7.setCell ⟨w7.heap.size, 0, none⟩ (.int .u8 57)).setCell ⟨w7.heap.size, 1, none⟩ (.int .i64 a)).setCell ⟨w7.heap.size, 2, none⟩ (.string ⟨#[]⟩)).setCell ⟨w7.heap.size, 3, none⟩ (.int .u64 0)).setCell ⟨w7.heap.size, 4, none⟩ (.slice (some ⟨wa7.heap.size, 0, none⟩) 1 1)) (.cells #[.int .u8 k2, .int .i64 a2, .string b2, .int .u64 n2, .slice ao2 m.kids.length cap2] 25)).heap.size := by rw [World.size_alloc, set5_size]; omega
             generalize hw : World.alloc (((((wa7.setCell ⟨w7.heap.size, 0, none⟩ (.int .u8 57)).setCell ⟨w7.heap.size, 1, none⟩ (.int .i64 a)).setCell ⟨w7.heap.size, 2, none⟩ (.string ⟨#[]⟩)).setCell ⟨w7.heap.size, 3, none⟩ (.int .u64 0)).setCell ⟨w7.heap.size, 4, none⟩ (.slice (some ⟨wa7.heap.size, 0, none⟩) 1 1)) (.cells #[.int .u8 k2, .int .i64 a2, .string b2, .int .u64 n2, .slice ao2 m.kids.length cap2] 25) = wa8 at hrow hR8 hK8 o8 n8 hs8 ⊢
             clear hw
             go_wp2_with fail
             refine (pleave_as hR8 (by omega)).mono ?_
             rintro en wa9 ⟨⟨_, rfl⟩, hR9, hK9⟩
             have n9 := n8.kp hK9 (by omega)
             have o9 := o8.kp hK9 (by omega)
             have hrow9 := hrow.on fun g hg cur ho => ho.kp hK9 (by omega)
             have hK10 := hK8.trans hK9
             obtain ⟨t0, t1, t2, t3, t4, tf⟩ := n9.five
             go_wp2_with (refine wpList_put5 rfl (.tmp 2) (.tmp 44) rfl rfl w.heap.size rfl rfl o9 ⟨rfl, rfl, rfl, rfl, rfl⟩ ?_; intro wz oz gz)
             refine bodyPost_cell1 (t := 25) rfl rfl rfl oz Tryz.underlying25 rfl (by kernel_rfl) ?_
             have hrow10 : Row wz w.heap.size _ [m] := RowQ.row ((hrow9.on fun g hg cur ho => ho.grown gz (some_ne (by omega))).imp fun g _ h => (by omega : w.heap.size ≤ g))
             exact ⟨_, _, _, _, _, rfl, ⟨rfl, ht.2.2.2.1, rfl, rfl, hrow10⟩, hR9.grown gz (some_lt (by omega)), hK10.grown gz (some_le (by omega))⟩)
          | (have hrow := (RowQ.one (hN2.q.imp (Q' := fun g => w7.heap.size ≤ g ∧ g ≠ (wa7.heap.size + 1)) fun g g1 g2 => by rw [World.size_drew] at g2; exact ⟨by omega, by omega⟩) ⟨by omega, by omega⟩).on fun g hg cur ho => ho.alloc (.cells #[.int .u8 57, .int .i64 a, .string ⟨#[]⟩, .int .u64 0, .slice (some ⟨wa7.heap.size, 0, none⟩) 1 1] 25)
             have n8 := Own.new (wa7.alloc (.cells #[.int .u8 k2, .int .i64 a2, .string b2, .int .u64 n2, .slice ao2 m.kids.length cap2] 25)) #[.int .u8 57, .int .i64 a, .string ⟨#[]⟩, .int .u64 0, .slice (some ⟨wa7.heap.size, 0, none⟩) 1 1] 25
             rw [World.size_alloc] at n8
             have hR8 := (hR7.alloc (.cells #[.int .u8 k2, .int .i64 a2, .string b2, .int .u64 n2, .slice ao2 m.kids.length cap2] 25)).alloc (.cells #[.int .u8 57, .int .i64 a, .string ⟨#[]⟩, .int .u64 0, .slice (some ⟨wa7.heap.size, 0, none⟩) 1 1] 25)
             have hK8 := (hKK.alloc (.cells #[.int .u8 k2, .int .i64 a2, .string b2, .int .u64 n2, .slice ao2 m.kids.length cap2] 25)).alloc (.cells #[.int .u8 57, .int .i64 a, .string ⟨#[]⟩, .int .u64 0, .slice (some ⟨wa7.heap.size, 0, none⟩) 1 1] 25)
             have o8 := (o7.alloc (.cells #[.int .u8 k2, .int .i64 a2, .string b2, .int .u64 n2, .slice ao2 m.kids.length cap2] 25)).alloc (.cells #[.int .u8 57, .int .i64 a, .string ⟨#[]⟩, .int .u64 0, .slice (some ⟨wa7.heap.size, 0, none⟩) 1 1] 25)
             have hs8 : wa7.heap.size + 1 < ((wa7.alloc (.cells #[.int .u8 k2, .int .i64 a2, .string b2, .int .u64 n2, .slice ao2 m.kids.length cap2] 25)).alloc (.cells #[.int .u8 57, .int .i64 a, .string ⟨#[]⟩, .int .u64 0, .slice (some ⟨wa7.heap.size, 0, none⟩) 1 1] 25)).heap.size := by rw [World.size_alloc, World.size_alloc]; omega
             generalize hw : (wa7.alloc (.cells #[.int .u8 k2, .int .i64 a2, .string b2, .int .u64 n2, .slice ao2 m.kids.length cap2] 25)).alloc (.cells #[.int .u8 57, .int .i64 a, .string ⟨#[]⟩, .int .u64 0, .slice (some ⟨wa7.heap.size, 0, none⟩) 1 1] 25) = wa8 at hrow hR8 hK8 o8 n8 hs8 ⊢
             clear hw
             go_wp2_with fail
             refine (pleave_as hR8 (by omega)).mono ?_
             rintro en wa9 ⟨⟨_, rfl⟩, hR9, hK9⟩
             have n9 := n8.kp hK9 (by omega)
             have o9 := o8.kp hK9 (by omega)
             have hrow9 := hrow.on fun g hg cur ho => ho.kp hK9 (by omega)
             have hK10 := hK8.trans hK9
             obtain ⟨t0, t1, t2, t3, t4, tf⟩ := n9.five
             go_wp2_with (refine wpList_put5 rfl (.tmp 2) (.tmp 44) rfl rfl w.heap.size rfl rfl o9 ⟨rfl, rfl, rfl, rfl, rfl⟩ ?_; intro wz oz gz)
             refine bodyPost_cell1 (t := 25) rfl rfl rfl oz Tryz.underlying25 rfl (by kernel_rfl) ?_
             have hrow10 : Row wz w.heap.size _ [m] := RowQ.row ((hrow9.on fun g hg cur ho => ho.grown gz (some_ne (by omega))).imp fun g _ h => (by omega : w.heap.size ≤ g))
             exact ⟨_, _, _, _, _, rfl, ⟨rfl, ht.2.2.2.1, rfl, rfl, hrow10⟩, hR9.grown gz (some_lt (by omega)), hK10.grown gz (some_le (by omega))⟩)
          | (have hN7 := (hN2.q.imp (Q' := fun g => w7.heap.size ≤ g ∧ g ≠ wa7.heap.size) fun g g1 g2 => by rw [World.size_drew] at g2; exact ⟨by omega, by omega⟩).on fun g hg cur ho => ho.alloc (.cells #[.int .u8 57, .int .i64 a, .string ⟨#[]⟩, .int .u64 0, .slice (some ⟨wa7.heap.size + 1, 0, none⟩) 1 1] 25)
             have hrow := RowQ.one hN7 (by rw [World.size_alloc]; exact ⟨by omega, by omega⟩)
             rw [World.size_alloc] at hrow
             have n8 := (Own.new wa7 #[.int .u8 57, .int .i64 a, .string ⟨#[]⟩, .int .u64 0, .slice (some ⟨wa7.heap.size + 1, 0, none⟩) 1 1] 25).alloc (.cells #[.int .u8 k2, .int .i64 a2, .string b2, .int .u64 n2, .slice ao2 m.kids.length cap2] 25)
             have hR8 := (hR7.alloc (.cells #[.int .u8 57, .int .i64 a, .string ⟨#[]⟩, .int .u64 0, .slice (some ⟨wa7.heap.size + 1, 0, none⟩) 1 1] 25)).alloc (.cells #[.int .u8 k2, .int .i64 a2, .string b2, .int .u64 n2, .slice ao2 m.kids.length cap2] 25)
             have hK8 := (hKK.alloc (.cells #[.int .u8 57, .int .i64 a, .string ⟨#[]⟩, .int .u64 0, .slice (some ⟨wa7.heap.size + 1, 0, none⟩) 1 1] 25)).alloc (.cells #[.int .u8 k2, .int .i64 a2, .string b2, .int .u64 n2, .slice ao2 m.kids.length cap2] 25)
             have o8 := (o7.alloc (.cells #[.int .u8 57, .int .i64 a, .string ⟨#[]⟩, .int .u64 0, .slice (some ⟨wa7.heap.size + 1, 0, none⟩) 1 1] 25)).alloc (.cells #[.int .u8 k2, .int .i64 a2, .string b2, .int .u64 n2, .slice ao2 m.kids.length cap2] 25)
             have hs8 : wa7.heap.size + 1 < ((wa7.alloc (.cells #[.int .u8 57, .int .i64 a, .string ⟨#[]⟩, .int .u64 0, .slice (some ⟨wa7.heap.size + 1, 0, none⟩) 1 1] 25)).alloc (.cells #[.int .u8 k2, .int .i64 a2, .string b2, .int .u64 n2, .slice ao2 m.kids.length cap2] 25)).heap.size := by rw [World.size_alloc, World.size_alloc]; omega
             generalize hw : (wa7.alloc (.cells #[.int .u8 57, .int .i64 a, .string ⟨#[]⟩, .int .u64 0, .slice (some ⟨wa7.heap.size + 1, 0, none⟩) 1 1] 25)).alloc (.cells #[.int .u8 k2, .int .i64 a2, .string b2, .int .u64 n2, .slice ao2 m.kids.length cap2] 25) = wa8 at hrow hR8 hK8 o8 n8 hs8 ⊢
             clear hw
             go_wp2_with fail
             refine (pleave_as hR8 (by omega)).mono ?_
             rintro en wa9 ⟨⟨_, rfl⟩, hR9, hK9⟩
             have n9 := n8.kp hK9 (by omega)
             have o9 := o8.kp hK9 (by omega)
             have hrow9 := hrow.on fun g hg cur ho => ho.kp hK9 (by omega)
             have hK10 := hK8.trans hK9
             obtain ⟨t0, t1, t2, t3, t4, tf⟩ := n9.five
             go_wp2_with (refine wpList_put5 rfl (.tmp 2) (.tmp 44) rfl rfl w.heap.size rfl rfl o9 ⟨rfl, rfl, rfl, rfl, rfl⟩ ?_; intro wz oz gz)
             refine bodyPost_cell1 (t := 25) rfl rfl rfl oz Tryz.underlying25 rfl (by kernel_rfl) ?_
             have hrow10 : Row wz w.heap.size _ [m] := RowQ.row ((hrow9.on fun g hg cur ho => ho.grown gz (some_ne (by omega))).imp fun g _ h => (by omega : w.heap.size ≤ g))
             exact ⟨_, _, _, _, _, rfl, ⟨rfl, ht.2.2.2.1, rfl, rfl, hrow10⟩, hR9.grown gz (some_lt (by omega)), hK10.grown gz (some_le (by omega))⟩)
      | false =>
        have hsk : signK (nxt E s) = 0 := by unfold signK; rw [hs1, hs2, hs3]; rfl
        rw [hsk, if_pos rfl] at hm
        obtain ⟨m, s1, h1, h2⟩ := bnd_some hm
        clear hm
        go_wp2_with fail
        refine (pprimary_as HT HP f hf _ _ _ _ _ _ _ hR hE hd h1).mono ?_
        rintro en w5 ⟨k1, a1, b1, n1x, v1, rfl, n1, hR2, hK2⟩
        have hs5 := (((Kp.refl r w4)).trans hK2).size
        replace o := (o).kp hK2 (by omega)
        replace hK := (hK).trans hK2
        replace hR := hR2
        clear hK2 hR2
        have n1i := KI.refl w4.heap.size w5.heap.size w5
        go_wp2_with fail
        refine (ptails_as HP f hf _ _ _ _ _ _ _ _ w4.heap.size _ _ _ _ _ hR hE hd (by omega) (by omega) n1 h2).mono ?_
        rintro en w6 ⟨k3, a3, b3, n3, v3, rfl, hN3, hR2, hK2⟩
        have hs6 := (((Kp.refl r w5)).trans hK2).size
        replace o := (o).kp hK2 (by omega)
        replace hK := (hK).trans hK2
        replace hR := hR2
        clear hK2 hR2
        go_wp2_with (refine wpList_put5 rfl (.tmp 2) (.tmp 9) rfl rfl w.heap.size rfl rfl (o) ⟨rfl, rfl, rfl, rfl, hN3.2.2.2.2.one1⟩ ?_; intro wz oz gz)
        refine bodyPost_cell1 (t := 25) rfl rfl rfl oz Tryz.underlying25 rfl (by kernel_rfl) ?_
        exact ⟨_, _, _, _, _, rfl, hN3.row fun x => (x.grown gz (by omega)).mono (by omega), (hR).grown gz (some_lt (by omega)), (hK).grown gz (some_le (by omega))⟩
end Go.Proofs.YtmhnbklchnnbaaaGreatDoor
