import Derived.Test.YtmhnbklchnnbaaaGreatDoorJPNode
import Derived.Deep.RegionHeld3
set_option maxHeartbeats 1000000
set_option maxRecDepth 100000
namespace Go.Proofs.YtmhnbklchnnbaaaGreatDoor
open Go.RowKit
set_option linter.unusedVariables false
theorem pfield_as {typ : P Tree} {c : Nat} (HP : PartAs 82 typ c) : PartAs 65 (fieldP typ) c := by
  intro w r E d s t s' hR hE hd hm
  obtain ⟨tk, s1, h1, h2⟩ := bnd_some hm
  obtain ⟨n, s2, h3, h4⟩ := bnd_some h2
  obtain ⟨rfl, rfl⟩ := ret_some h4
  obtain ⟨q, hq⟩ : ∃ q, nm (nxt E s) = q := ⟨_, rfl⟩
  have hn : needT q E d s = some (tk, s1) := by rw [← hq]; exact h1
  obtain ⟨k, tx, nn, a, e, ht⟩ := tokIs tk
  have hrl := hR.lt
  have hK := Kp.refl r w
  clear hm h1 h2 h4
  go_enter Tryz.func65, Tryz.ntmps65
  go_upto_region 1 with fail
  have hzo := hR.lt
  have hko := hK.size
  have o := Own.new w #[.int .u8 0, .int .i64 0, .string ⟨#[]⟩, .int .u64 0, .slice none 0 0] 25
  replace hR := hR.alloc (.cells #[.int .u8 0, .int .i64 0, .string ⟨#[]⟩, .int .u64 0, .slice none 0 0] 25)
  replace hK := hK.alloc (.cells #[.int .u8 0, .int .i64 0, .string ⟨#[]⟩, .int .u64 0, .slice none 0 0] 25)
  generalize hw : w.alloc (.cells #[.int .u8 0, .int .i64 0, .string ⟨#[]⟩, .int .u64 0, .slice none 0 0] 25) = w1 at hR hK o ⊢
  clear hw
  have hs1 := o.lt
  go_wp2_with fail
  refine (pname_as hR hE q hq).mono ?_
  rintro en w2 ⟨rfl, hR2, hb⟩
  have hs2 := (((Kp.refl r w1)).trans (Kp.of hb)).size
  replace o := (o).below hb
  replace hK := (hK).trans (Kp.of hb)
  replace hR := hR2
  clear hb hR2
  clear hq
  go_wp2_with fail
  refine (pneed_as hR hE q hn ht).mono ?_
  rintro en w3 ⟨rfl, hR2, hK2⟩
  have hs3 := (((Kp.refl r w2)).trans hK2).size
  replace o := (o).kp hK2 (by omega)
  replace hK := (hK).trans hK2
  replace hR := hR2
  clear hK2 hR2
  clear hn
  go_upto_region 2 with fail
  have hzp := hR.lt
  have hkp := hK.size
  have p := Own.new w3 #[.int .u8 k, .string tx, .int .u64 nn, .int .i64 a, .int .i64 e] 77
  replace hR := hR.alloc (.cells #[.int .u8 k, .string tx, .int .u64 nn, .int .i64 a, .int .i64 e] 77)
  replace hK := hK.alloc (.cells #[.int .u8 k, .string tx, .int .u64 nn, .int .i64 a, .int .i64 e] 77)
  replace o := o.alloc (.cells #[.int .u8 k, .string tx, .int .u64 nn, .int .i64 a, .int .i64 e] 77)
  generalize hw : w3.alloc (.cells #[.int .u8 k, .string tx, .int .u64 nn, .int .i64 a, .int .i64 e] 77) = w4 at hR hK p o ⊢
  clear hw
  have hs4 := p.lt
  obtain ⟨p0, p1, p2, p3, p4, pf⟩ := p.five
  have hne : w3.heap.size ≠ w.heap.size := by omega
  have hne2 : w.heap.size ≠ w3.heap.size := by omega
  go_region_held3 (fun w' => w'.cell? ⟨w3.heap.size, 3, none⟩ = some (.int .i64 a) ∧ w'.cell? ⟨w3.heap.size, 1, none⟩ = some (.string tx)) (go_keep) (first | (go_at_call 82; refine (HP w4.drew r E d s1 n s2 hR.drew hE hd h3).mono ?_; rintro en w5 ⟨k1, a1, b1, n1, v1, rfl, hN, hR2, hK2⟩; have p' := p.drew.kp hK2 (by omega); obtain ⟨q0, q1, q2, q3, q4, qf⟩ := p'.five; have o' := o.drew.kp hK2 (by omega); obtain ⟨r0, r1, r2, r3, r4, rf⟩ := o'.five; have hs5 := hK2.size; rw [World.size_drew] at hs5; have hl5 := o'.lt; have hp5 := p'.lt; clear p'))
  all_goals
    have hrow := Row.one (hN.row fun x => x.set5 (g := w.heap.size) (by rw [World.size_drew]; omega) (.int .u8 3) (.int .i64 a) (.string tx) (.int .u64 0) (.slice (some ⟨w5.heap.size, 0, none⟩) 1 1)) (Nat.le_refl _) (by rw [set5_size, World.size_drew]; exact hs5)
    rw [set5_size] at hrow
    go_wp2
    refine bodyPost_cell1 (t := 25) rfl rfl rfl ((o'.set5 _ _ _ _ _).alloc _) Tryz.underlying25 rfl (by kernel_rfl) ?_
    exact ⟨_, _, _, _, _, rfl, ⟨rfl, ht.2.2.2.1, ht.2.1, rfl, hrow.mono (by rw [World.size_drew]; omega)⟩, (hR2.set5 (by omega) _ _ _ _ _).alloc _, (((hK.drew.trans hK2).set5 (.inl (Nat.le_refl _)) _ _ _ _ _).alloc _)⟩
theorem pconstant_as : PartAs 132 constP 0 := by
  intro w r E d s t s' hR hE hd hm
  have hrl := hR.lt
  have hK := Kp.refl r w
  obtain ⟨q, hq⟩ : ∃ q, isT 4 [⟨#[45]⟩] (nxt E s) = q := ⟨_, rfl⟩
  have hq2 : sg [45] (nxt E s) = q := (isT_sg _ _).symm.trans hq
  go_enter Tryz.func132, Tryz.ntmps132
  go_upto_region 1 with fail
  have hzo := hR.lt
  have hko := hK.size
  have o := Own.new w #[.int .u8 0, .int .i64 0, .string ⟨#[]⟩, .int .u64 0, .slice none 0 0] 25
  replace hR := hR.alloc (.cells #[.int .u8 0, .int .i64 0, .string ⟨#[]⟩, .int .u64 0, .slice none 0 0] 25)
  replace hK := hK.alloc (.cells #[.int .u8 0, .int .i64 0, .string ⟨#[]⟩, .int .u64 0, .slice none 0 0] 25)
  generalize hw : w.alloc (.cells #[.int .u8 0, .int .i64 0, .string ⟨#[]⟩, .int .u64 0, .slice none 0 0] 25) = w1 at hR hK o ⊢
  clear hw
  have hs1 := o.lt
  go_wp2_with fail
  refine (psign_as (hR.alloc _) hE (xs := [⟨#[45]⟩]) (Own.new w1 _ _) 1 rfl (by omega) q hq).mono ?_
  rintro en w2 ⟨rfl, hR2, hb⟩
  have hs2 := (((Kp.refl r w1).alloc _).trans (Kp.of hb)).size
  replace o := (o.alloc _).below hb
  replace hK := (hK.alloc _).trans (Kp.of hb)
  replace hR := hR2
  clear hb hR2
  unfold constP at hm
  replace hm := look_some hm
  clear hq
  cases q with
  | false =>
    rw [hq2, if_neg (by simp)] at hm
    clear hq2
    go_wp2_with fail
    refine (pwhole_as _ _ _ _ _ _ _ hR hE (by omega) hm).mono ?_
    rintro en w3 ⟨k1, a1, b1, n1x, v1, rfl, n1, hR2, hK2⟩
    have hs3 := (((Kp.refl r w2)).trans hK2).size
    replace o := (o).kp hK2 (by omega)
    replace hK := (hK).trans hK2
    replace hR := hR2
    clear hK2 hR2
    go_wp2_with (refine wpList_put5 rfl (.tmp 2) (.tmp 11) rfl rfl w.heap.size rfl rfl (o) ⟨rfl, rfl, rfl, rfl, n1.2.2.2.2.one1⟩ ?_; intro wz oz gz)
    refine bodyPost_cell1 (t := 25) rfl rfl rfl oz Tryz.underlying25 rfl (by kernel_rfl) ?_
    exact ⟨_, _, _, _, _, rfl, n1.row fun x => (x.grown gz (by omega)).mono (by omega), (hR).grown gz (some_lt (by omega)), (hK).grown gz (some_le (by omega))⟩
  | true =>
    rw [hq2, if_pos rfl] at hm
    clear hq2
    obtain ⟨tk, s1, h1, h2⟩ := bnd_some hm
    obtain ⟨rfl, rfl⟩ := take_some h1
    obtain ⟨n, s2, h3, h4⟩ := bnd_some h2
    obtain ⟨rfl, rfl⟩ := ret_some h4
    obtain ⟨k, tx, nn, a, e, ht⟩ := tokIs (nxt E s)
    clear hm h1 h2 h4
    go_wp2_with fail
    refine (ptake_as hR hE ht).mono ?_
    rintro en w3 ⟨rfl, hR2, hK2⟩
    have hs3 := (((Kp.refl r w2)).trans hK2).size
    replace o := (o).kp hK2 (by omega)
    replace hK := (hK).trans hK2
    replace hR := hR2
    clear hK2 hR2
    go_wp2_with fail
    refine (pwhole_as _ _ _ _ _ _ _ hR hE (by omega) h3).mono ?_
    rintro en w4 ⟨k1, a1, b1, n1x, v1, rfl, n1, hR2, hK2⟩
    have hs4 := (((Kp.refl r w3)).trans hK2).size
    replace o := (o).kp hK2 (by omega)
    replace hK := (hK).trans hK2
    replace hR := hR2
    clear hK2 hR2
    go_wp2_with (refine wpList_put5 rfl (.tmp 2) (.tmp 21) rfl rfl w.heap.size rfl rfl (o.alloc _) ⟨rfl, rfl, rfl, rfl, rfl⟩ ?_; intro wz oz gz)
    refine bodyPost_cell1 (t := 25) rfl rfl rfl oz Tryz.underlying25 rfl (by kernel_rfl) ?_
    exact ⟨_, _, _, _, _, rfl, ⟨rfl, ht.2.2.2.1, rfl, rfl, ((Row.one n1 (Nat.le_refl _) (by omega)).grown gz (by omega)).mono (by omega)⟩, (hR.alloc _).grown gz (some_lt (by omega)), (hK.alloc _).grown gz (some_le (by omega))⟩
theorem isT_typeW (t : Tok) : isT 1 [⟨#[105, 56]⟩, ⟨#[105, 51, 50]⟩, ⟨#[105, 54, 52]⟩, ⟨#[98, 111, 111, 108]⟩, ⟨#[98, 121, 116, 101, 115]⟩] t = typeW t := by
  simp only [isT, List.any_cons, List.any_nil, typeW, wd, Bool.or_false, Bool.and_or_distrib_left, Bool.or_assoc]
  rfl
theorem PartAs.le {fn : Nat} {m : P Tree} {c c' : Nat} (h : PartAs fn m c) (hc : c ≤ c') : PartAs fn m c' := fun w r E d s t s' hR hE hd hm => h w r E d s t s' hR hE (by omega) hm
theorem ptypeOf_as {rec : P Tree} {c : Nat} (HP : PartAs 82 rec c) : PartAs 82 (typeP rec) (c + 1) := by
  intro w r E d s t s' hR hE hd hm
  have hrl := hR.lt
  have hK := Kp.refl r w
  obtain ⟨q, hq⟩ : ∃ q, nm (nxt E s) = q := ⟨_, rfl⟩
  obtain ⟨q2, hq2⟩ : ∃ q2, typeW (nxt E s) = q2 := ⟨_, rfl⟩
  obtain ⟨q3, hq3⟩ : ∃ q3, sg [91] (nxt E s) = q3 := ⟨_, rfl⟩
  unfold typeP at hm
  replace hm := look_some hm
  rw [hq, hq2, hq3] at hm
  have hq2' := (isT_typeW _).trans hq2
  have hq3' : isT 4 [⟨#[91]⟩] (nxt E s) = q3 := (isT_sg _ _).trans hq3
  clear hq2 hq3
  go_enter Tryz.func82, Tryz.ntmps82
  go_upto_region 1 with fail
  have hzo := hR.lt
  have hko := hK.size
  have o := Own.new w #[.int .u8 0, .int .i64 0, .string ⟨#[]⟩, .int .u64 0, .slice none 0 0] 25
  replace hR := hR.alloc (.cells #[.int .u8 0, .int .i64 0, .string ⟨#[]⟩, .int .u64 0, .slice none 0 0] 25)
  replace hK := hK.alloc (.cells #[.int .u8 0, .int .i64 0, .string ⟨#[]⟩, .int .u64 0, .slice none 0 0] 25)
  generalize hw : w.alloc (.cells #[.int .u8 0, .int .i64 0, .string ⟨#[]⟩, .int .u64 0, .slice none 0 0] 25) = w1 at hR hK o ⊢
  clear hw
  have hs1 := o.lt
  go_wp2_with fail
  refine (pname_as hR hE q hq).mono ?_
  rintro en w2 ⟨rfl, hR2, hb⟩
  have hs2 := (((Kp.refl r w1)).trans (Kp.of hb)).size
  replace o := (o).below hb
  replace hK := (hK).trans (Kp.of hb)
  replace hR := hR2
  clear hb hR2
  clear hq
  cases q with
  | true =>
    rw [Bool.true_or, if_pos rfl] at hm
    obtain ⟨tk, s1, h1, h2⟩ := bnd_some hm
    obtain ⟨rfl, rfl⟩ := take_some h1
    obtain ⟨rfl, rfl⟩ := ret_some h2
    obtain ⟨k, tx, nn, a, e, ht⟩ := tokIs (nxt E s)
    clear hm h1 h2
    go_wp2_with fail
    refine (ptake_as hR hE ht).mono ?_
    rintro en w3 ⟨rfl, hR2, hK2⟩
    have hs3 := (((Kp.refl r w2)).trans hK2).size
    replace o := (o).kp hK2 (by omega)
    replace hK := (hK).trans hK2
    replace hR := hR2
    clear hK2 hR2
    go_upto_region 3 with fail
    have hzp := hR.lt
    have hkp := hK.size
    have p := Own.new w3 #[.int .u8 k, .string tx, .int .u64 nn, .int .i64 a, .int .i64 e] 77
    replace hR := hR.alloc (.cells #[.int .u8 k, .string tx, .int .u64 nn, .int .i64 a, .int .i64 e] 77)
    replace hK := hK.alloc (.cells #[.int .u8 k, .string tx, .int .u64 nn, .int .i64 a, .int .i64 e] 77)
    replace o := o.alloc (.cells #[.int .u8 k, .string tx, .int .u64 nn, .int .i64 a, .int .i64 e] 77)
    generalize hw : w3.alloc (.cells #[.int .u8 k, .string tx, .int .u64 nn, .int .i64 a, .int .i64 e] 77) = w4 at hR hK p o ⊢
    clear hw
    have hs4 := p.lt
    obtain ⟨p0, p1, p2, p3, p4, pf⟩ := p.five
    go_wp2_with (refine wpList_put5 rfl (.tmp 2) (.tmp 25) rfl rfl w.heap.size rfl rfl (o) ⟨rfl, rfl, rfl, rfl, rfl⟩ ?_; intro wz oz gz)
    refine bodyPost_cell1 (t := 25) rfl rfl rfl oz Tryz.underlying25 rfl (by kernel_rfl) ?_
    exact ⟨_, _, _, _, _, rfl, ⟨rfl, ht.2.2.2.1, ht.2.1, rfl, Row.nil _ _⟩, (hR).grown gz (some_lt (by omega)), (hK).grown gz (some_le (by omega))⟩
  | false =>
    go_wp2_with fail
    refine (pword_as (hR.alloc _) hE (xs := [⟨#[105, 56]⟩, ⟨#[105, 51, 50]⟩, ⟨#[105, 54, 52]⟩, ⟨#[98, 111, 111, 108]⟩, ⟨#[98, 121, 116, 101, 115]⟩]) (Own.new w2 _ _) 5 rfl (by omega) q2 hq2').mono ?_
    rintro en w3 ⟨rfl, hR2, hb⟩
    have hs3 := (((Kp.refl r w2).alloc _).trans (Kp.of hb)).size
    replace o := (o.alloc _).below hb
    replace hK := (hK.alloc _).trans (Kp.of hb)
    replace hR := hR2
    clear hb hR2
    cases q2 with
    | true =>
      rw [if_pos (by rfl)] at hm
      obtain ⟨tk, s1, h1, h2⟩ := bnd_some hm
      obtain ⟨rfl, rfl⟩ := take_some h1
      obtain ⟨rfl, rfl⟩ := ret_some h2
      obtain ⟨k, tx, nn, a, e, ht⟩ := tokIs (nxt E s)
      clear hm h1 h2
      go_wp2_with fail
      refine (ptake_as hR hE ht).mono ?_
      rintro en w4 ⟨rfl, hR2, hK2⟩
      have hs4 := (((Kp.refl r w3)).trans hK2).size
      replace o := (o).kp hK2 (by omega)
      replace hK := (hK).trans hK2
      replace hR := hR2
      clear hK2 hR2
      go_upto_region 3 with fail
      have hzp := hR.lt
      have hkp := hK.size
      have p := Own.new w4 #[.int .u8 k, .string tx, .int .u64 nn, .int .i64 a, .int .i64 e] 77
      replace hR := hR.alloc (.cells #[.int .u8 k, .string tx, .int .u64 nn, .int .i64 a, .int .i64 e] 77)
      replace hK := hK.alloc (.cells #[.int .u8 k, .string tx, .int .u64 nn, .int .i64 a, .int .i64 e] 77)
      replace o := o.alloc (.cells #[.int .u8 k, .string tx, .int .u64 nn, .int .i64 a, .int .i64 e] 77)
      generalize hw : w4.alloc (.cells #[.int .u8 k, .string tx, .int .u64 nn, .int .i64 a, .int .i64 e] 77) = w5 at hR hK p o ⊢
      clear hw
      have hs5 := p.lt
      obtain ⟨p0, p1, p2, p3, p4, pf⟩ := p.five
      go_wp2_with (refine wpList_put5 rfl (.tmp 2) (.tmp 25) rfl rfl w.heap.size rfl rfl (o) ⟨rfl, rfl, rfl, rfl, rfl⟩ ?_; intro wz oz gz)
      refine bodyPost_cell1 (t := 25) rfl rfl rfl oz Tryz.underlying25 rfl (by kernel_rfl) ?_
      exact ⟨_, _, _, _, _, rfl, ⟨rfl, ht.2.2.2.1, ht.2.1, rfl, Row.nil _ _⟩, (hR).grown gz (some_lt (by omega)), (hK).grown gz (some_le (by omega))⟩
    | false =>
      rw [if_neg (by simp)] at hm
      go_wp2_with fail
      refine (psign_as (hR.alloc _) hE (xs := [⟨#[91]⟩]) (Own.new w3 _ _) 1 rfl (by omega) q3 hq3').mono ?_
      rintro en w4 ⟨rfl, hR2, hb⟩
      have hs4 := (((Kp.refl r w3).alloc _).trans (Kp.of hb)).size
      replace o := (o.alloc _).below hb
      replace hK := (hK.alloc _).trans (Kp.of hb)
      replace hR := hR2
      clear hb hR2
      cases q3 with
      | false =>
        rw [if_neg (by simp)] at hm
        obtain ⟨rfl, rfl⟩ : noN = t ∧ refS E s = s' := by simpa [refP] using hm
        clear hm
        go_wp2_with fail
        refine (prefuse_as hR hE).mono ?_
        rintro en w5 ⟨⟨_, rfl⟩, hR2, hK2⟩
        have hs5 := (((Kp.refl r w4)).trans hK2).size
        replace o := (o).kp hK2 (by omega)
        replace hK := (hK).trans hK2
        replace hR := hR2
        clear hK2 hR2
        go_wp2_with (refine wpList_put5 rfl (.tmp 2) (.tmp 34) rfl rfl w.heap.size rfl rfl (o) ⟨rfl, rfl, rfl, rfl, rfl⟩ ?_; intro wz oz gz)
        refine bodyPost_cell1 (t := 25) rfl rfl rfl oz Tryz.underlying25 rfl (by kernel_rfl) ?_
        exact ⟨_, _, _, _, _, rfl, ⟨rfl, rfl, rfl, rfl, Row.nil _ _⟩, (hR).grown gz (some_lt (by omega)), (hK).grown gz (some_le (by omega))⟩
      | true =>
        rw [if_pos rfl] at hm
        obtain ⟨y, s1, h1, h2⟩ := bnd_some hm
        obtain ⟨tk, s2, h3, h4⟩ := bnd_some h1
        obtain ⟨z, s3, h5, h6⟩ := bnd_some h4
        obtain ⟨tk2, s4, h7, h8⟩ := bnd_some h6
        obtain ⟨rfl, rfl⟩ := ret_some h8
        obtain ⟨m, s5, h9, h10⟩ := bnd_some h2
        obtain ⟨rfl, rfl⟩ := ret_some h10
        obtain ⟨k, tx, nn, a, e, ht⟩ := tokIs tk
        obtain ⟨c, hc⟩ : ∃ c, cn (nxt E (deepS d tk s2)) = c := ⟨_, rfl⟩
        unfold deeper at h5
        replace h5 := look_some h5
        rw [hc] at h5
        clear hm h1 h2 h4 h6 h8 h10
        go_wp2_with fail
        refine (popen_as hR hE (by omega) ⟨#[91]⟩ h3 ht).mono ?_
        rintro en w5 ⟨rfl, hR2, hK2⟩
        have hs5 := (((Kp.refl r w4)).trans hK2).size
        replace o := (o).kp hK2 (by omega)
        replace hK := (hK).trans hK2
        replace hR := hR2
        clear hK2 hR2
        clear h3
        go_upto_region 8 with fail
        have hzp := hR.lt
        have hkp := hK.size
        have p := Own.new w5 #[.int .u8 k, .string tx, .int .u64 nn, .int .i64 a, .int .i64 e] 77
        replace hR := hR.alloc (.cells #[.int .u8 k, .string tx, .int .u64 nn, .int .i64 a, .int .i64 e] 77)
        replace hK := hK.alloc (.cells #[.int .u8 k, .string tx, .int .u64 nn, .int .i64 a, .int .i64 e] 77)
        replace o := o.alloc (.cells #[.int .u8 k, .string tx, .int .u64 nn, .int .i64 a, .int .i64 e] 77)
        generalize hw : w5.alloc (.cells #[.int .u8 k, .string tx, .int .u64 nn, .int .i64 a, .int .i64 e] 77) = w6 at hR hK p o ⊢
        clear hw
        have hs6 := p.lt
        obtain ⟨p0, p1, p2, p3, p4, pf⟩ := p.five
        go_upto_region 9 with fail
        have hzn := hR.lt
        have hkn := hK.size
        have n := Own.new w6 #[.int .u8 9, .int .i64 a, .string ⟨#[]⟩, .int .u64 0, .slice none 0 0] 25
        replace hR := hR.alloc (.cells #[.int .u8 9, .int .i64 a, .string ⟨#[]⟩, .int .u64 0, .slice none 0 0] 25)
        replace hK := hK.alloc (.cells #[.int .u8 9, .int .i64 a, .string ⟨#[]⟩, .int .u64 0, .slice none 0 0] 25)
        replace o := o.alloc (.cells #[.int .u8 9, .int .i64 a, .string ⟨#[]⟩, .int .u64 0, .slice none 0 0] 25)
        replace p := p.alloc (.cells #[.int .u8 9, .int .i64 a, .string ⟨#[]⟩, .int .u64 0, .slice none 0 0] 25)
        generalize hw : w6.alloc (.cells #[.int .u8 9, .int .i64 a, .string ⟨#[]⟩, .int .u64 0, .slice none 0 0] 25) = w7 at hR hK n o p ⊢
        clear hw
        have hs7 := n.lt
        clear p0 p1 p2 p3 p4 pf
        go_wp2_with fail
        refine (pcount_as hR hE c hc).mono ?_
        rintro en w8 ⟨rfl, hR2, hb⟩
        have hs8 := (((Kp.refl r w7)).trans (Kp.of hb)).size
        replace o := (o).below hb
        replace p := (p).below hb
        replace n := (n).below hb
        replace hK := (hK).trans (Kp.of hb)
        replace hR := hR2
        clear hb hR2
        clear hc
        cases c with
        | false =>
          rw [if_neg (by simp)] at h5
          obtain ⟨rfl, rfl⟩ := ret_some h5
          clear h5
          go_wp2_with fail
          refine (pshut_as hR hE (by omega) ⟨#[93]⟩ h7).mono ?_
          rintro en w9 ⟨⟨_, rfl⟩, hR2, hK2⟩
          have hs9 := (((Kp.refl r w8)).trans hK2).size
          replace o := (o).kp hK2 (by omega)
          replace p := (p).kp hK2 (by omega)
          replace n := (n).kp hK2 (by omega)
          replace hK := (hK).trans hK2
          replace hR := hR2
          clear hK2 hR2
          clear h7
          obtain ⟨p0, p1, p2, p3, p4, pf⟩ := p.five
          go_wp2_with fail
          refine (penter_as hR (by omega) ht).mono ?_
          rintro en w10 ⟨⟨_, rfl⟩, hR2, hK2⟩
          have hs10 := (((Kp.refl r w9)).trans hK2).size
          replace o := (o).kp hK2 (by omega)
          replace p := (p).kp hK2 (by omega)
          replace n := (n).kp hK2 (by omega)
          replace hK := (hK).trans hK2
          replace hR := hR2
          clear hK2 hR2
          clear p0 p1 p2 p3 p4 pf
          go_wp2_with fail
          refine (HP _ _ _ _ _ _ _ hR hE (by omega) h9).mono ?_
          rintro en w11 ⟨k1, a1, b1, n1x, v1, rfl, n1, hR2, hK2⟩
          have hs11 := (((Kp.refl r w10)).trans hK2).size
          replace o := (o).kp hK2 (by omega)
          replace p := (p).kp hK2 (by omega)
          replace n := (n).kp hK2 (by omega)
          replace hK := (hK).trans hK2
          replace hR := hR2
          clear hK2 hR2
          clear h9
          have hrow := Row.one n1 (Nat.le_refl _) (by omega)
          replace hR := hR.alloc (.cells #[.int .u8 k1, .int .i64 a1, .string b1, .int .u64 n1x, v1] 25)
          replace hK := hK.alloc (.cells #[.int .u8 k1, .int .i64 a1, .string b1, .int .u64 n1x, v1] 25)
          replace o := o.alloc (.cells #[.int .u8 k1, .int .i64 a1, .string b1, .int .u64 n1x, v1] 25)
          replace n := n.alloc (.cells #[.int .u8 k1, .int .i64 a1, .string b1, .int .u64 n1x, v1] 25)
          go_upto_region 14 with (first | (refine wpList_put1nodes rfl (.tmp 59) (.tmp 58) rfl rfl w6.heap.size 4 rfl rfl n (by simp) ?_; intro wq0 nq0 gq0))
          have hs12 := gq0.size
          replace o := o.grown gq0 (some_ne (by omega))
          replace hrow := hrow.grown gq0 (by omega)
          replace hR := hR.grown gq0 (some_lt (by omega))
          replace hK := hK.grown gq0 (some_le (by omega))
          replace n : Own wq0 w6.heap.size #[.int .u8 9, .int .i64 a, .string ⟨#[]⟩, .int .u64 0, .slice (some ⟨w11.heap.size, 0, none⟩) 1 1] 25 := nq0
          clear nq0 gq0
          generalize hw : wq0 = w12 at *
          clear hw
          go_wp2_with fail
          refine (pleave_as hR (by omega)).mono ?_
          rintro en w13 ⟨⟨_, rfl⟩, hR2, hK2⟩
          have hs13 := (((Kp.refl r w12)).trans hK2).size
          replace o := (o).kp hK2 (by omega)
          replace n := (n).kp hK2 (by omega)
          replace hrow := (hrow).kp hK2 (by omega)
          replace hK := (hK).trans hK2
          replace hR := hR2
          clear hK2 hR2
          obtain ⟨n0, n1, n2, n3, n4, nf⟩ := n.five
          go_wp2_with (refine wpList_put5 rfl (.tmp 2) (.tmp 62) rfl rfl w.heap.size rfl rfl (o) ⟨rfl, rfl, rfl, rfl, rfl⟩ ?_; intro wz oz gz)
          refine bodyPost_cell1 (t := 25) rfl rfl rfl oz Tryz.underlying25 rfl (by kernel_rfl) ?_
          exact ⟨_, _, _, _, _, rfl, ⟨rfl, ht.2.2.2.1, rfl, rfl, (hrow.grown gz (by omega)).mono (by omega)⟩, (hR).grown gz (some_lt (by omega)), (hK).grown gz (some_le (by omega))⟩
        | true =>
          rw [if_pos rfl] at h5
          obtain ⟨c2, s6, h11, h12⟩ := bnd_some h5
          obtain ⟨rfl, rfl⟩ := take_some h11
          obtain ⟨rfl, rfl⟩ := ret_some h12
          obtain ⟨k', tx', nn', a', e', ht'⟩ := tokIs (nxt E (deepS d tk s2))
          clear h5 h11 h12
          go_wp2_with fail
          refine (ptake_as hR hE ht').mono ?_
          rintro en w9 ⟨rfl, hR2, hK2⟩
          have hs9 := (((Kp.refl r w8)).trans hK2).size
          replace o := (o).kp hK2 (by omega)
          replace p := (p).kp hK2 (by omega)
          replace n := (n).kp hK2 (by omega)
          replace hK := (hK).trans hK2
          replace hR := hR2
          clear hK2 hR2
          go_upto_region 11 with (first | (refine wpList_put1u8 rfl (.tmp 49) _ rfl rfl w6.heap.size 0 rfl rfl n (by simp) ?_; intro wq0 nq0 gq0) | (refine wpList_put1u64 rfl (.tmp 50) (.tmp 48) rfl rfl w6.heap.size 3 rfl rfl nq0 (by simp) ?_; intro wq1 nq1 gq1))
          have hs10 := gq0.size
          replace o := o.grown gq0 (some_ne (by omega))
          replace p := p.grown gq0 (some_ne (by omega))
          replace hR := hR.grown gq0 (some_lt (by omega))
          replace hK := hK.grown gq0 (some_le (by omega))
          have hs11 := gq1.size
          replace o := o.grown gq1 (some_ne (by omega))
          replace p := p.grown gq1 (some_ne (by omega))
          replace hR := hR.grown gq1 (some_lt (by omega))
          replace hK := hK.grown gq1 (some_le (by omega))
          replace n : Own wq1 w6.heap.size #[.int .u8 8, .int .i64 a, .string ⟨#[]⟩, .int .u64 nn', .slice none 0 0] 25 := nq1
          clear nq0 nq1 gq0 gq1
          generalize hw : wq1 = w11 at *
          clear hw
          go_wp2_with fail
          refine (pshut_as hR hE (by omega) ⟨#[93]⟩ h7).mono ?_
          rintro en w12 ⟨⟨_, rfl⟩, hR2, hK2⟩
          have hs12 := (((Kp.refl r w11)).trans hK2).size
          replace o := (o).kp hK2 (by omega)
          replace p := (p).kp hK2 (by omega)
          replace n := (n).kp hK2 (by omega)
          replace hK := (hK).trans hK2
          replace hR := hR2
          clear hK2 hR2
          clear h7
          obtain ⟨p0, p1, p2, p3, p4, pf⟩ := p.five
          go_wp2_with fail
          refine (penter_as hR (by omega) ht).mono ?_
          rintro en w13 ⟨⟨_, rfl⟩, hR2, hK2⟩
          have hs13 := (((Kp.refl r w12)).trans hK2).size
          replace o := (o).kp hK2 (by omega)
          replace p := (p).kp hK2 (by omega)
          replace n := (n).kp hK2 (by omega)
          replace hK := (hK).trans hK2
          replace hR := hR2
          clear hK2 hR2
          clear p0 p1 p2 p3 p4 pf
          go_wp2_with fail
          refine (HP _ _ _ _ _ _ _ hR hE (by omega) h9).mono ?_
          rintro en w14 ⟨k1, a1, b1, n1x, v1, rfl, n1, hR2, hK2⟩
          have hs14 := (((Kp.refl r w13)).trans hK2).size
          replace o := (o).kp hK2 (by omega)
          replace p := (p).kp hK2 (by omega)
          replace n := (n).kp hK2 (by omega)
          replace hK := (hK).trans hK2
          replace hR := hR2
          clear hK2 hR2
          clear h9
          have hrow := Row.one n1 (Nat.le_refl _) (by omega)
          replace hR := hR.alloc (.cells #[.int .u8 k1, .int .i64 a1, .string b1, .int .u64 n1x, v1] 25)
          replace hK := hK.alloc (.cells #[.int .u8 k1, .int .i64 a1, .string b1, .int .u64 n1x, v1] 25)
          replace o := o.alloc (.cells #[.int .u8 k1, .int .i64 a1, .string b1, .int .u64 n1x, v1] 25)
          replace n := n.alloc (.cells #[.int .u8 k1, .int .i64 a1, .string b1, .int .u64 n1x, v1] 25)
          go_upto_region 14 with (first | (refine wpList_put1nodes rfl (.tmp 59) (.tmp 58) rfl rfl w6.heap.size 4 rfl rfl n (by simp) ?_; intro wq0 nq0 gq0))
          have hs15 := gq0.size
          replace o := o.grown gq0 (some_ne (by omega))
          replace hrow := hrow.grown gq0 (by omega)
          replace hR := hR.grown gq0 (some_lt (by omega))
          replace hK := hK.grown gq0 (some_le (by omega))
          replace n : Own wq0 w6.heap.size #[.int .u8 8, .int .i64 a, .string ⟨#[]⟩, .int .u64 nn', .slice (some ⟨w14.heap.size, 0, none⟩) 1 1] 25 := nq0
          clear nq0 gq0
          generalize hw : wq0 = w15 at *
          clear hw
          go_wp2_with fail
          refine (pleave_as hR (by omega)).mono ?_
          rintro en w16 ⟨⟨_, rfl⟩, hR2, hK2⟩
          have hs16 := (((Kp.refl r w15)).trans hK2).size
          replace o := (o).kp hK2 (by omega)
          replace n := (n).kp hK2 (by omega)
          replace hrow := (hrow).kp hK2 (by omega)
          replace hK := (hK).trans hK2
          replace hR := hR2
          clear hK2 hR2
          obtain ⟨n0, n1, n2, n3, n4, nf⟩ := n.five
          go_wp2_with (refine wpList_put5 rfl (.tmp 2) (.tmp 62) rfl rfl w.heap.size rfl rfl (o) ⟨rfl, rfl, rfl, rfl, rfl⟩ ?_; intro wz oz gz)
          refine bodyPost_cell1 (t := 25) rfl rfl rfl oz Tryz.underlying25 rfl (by kernel_rfl) ?_
          exact ⟨_, _, _, _, _, rfl, ⟨rfl, ht.2.2.2.1, rfl, ht'.2.2.1, (hrow.grown gz (by omega)).mono (by omega)⟩, (hR).grown gz (some_lt (by omega)), (hK).grown gz (some_le (by omega))⟩
end Go.Proofs.YtmhnbklchnnbaaaGreatDoor
