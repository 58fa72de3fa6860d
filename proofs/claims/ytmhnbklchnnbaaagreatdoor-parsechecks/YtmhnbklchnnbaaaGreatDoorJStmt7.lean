import Derived.Test.YtmhnbklchnnbaaaGreatDoorJStmt6
set_option maxHeartbeats 1000000
set_option maxRecDepth 100000
namespace Go.Proofs.YtmhnbklchnnbaaaGreatDoor
open Go.RowKit
set_option linter.unusedVariables false
def SetRel (w : World) (r E d : Nat) (go : Bool) (l : List Tree) (s' : St) (B g0 g1 : Nat) (cs : Array Value) (f : Nat) (v : Value) (wr : World) : Prop :=
  ∃ acc sl, setL f go acc E d sl = some (l, s') ∧ RdAt wr r E d sl ∧ Row wr B v acc ∧ Own wr g0 #[.int .u8 0, .int .i64 0, .string ⟨#[]⟩, .int .u64 0, .slice none 0 0] 25 ∧ Own wr g1 cs 25 ∧ Kp r w wr ∧ acc.length + f ≤ 900000000 ∧ B ≤ wr.heap.size ∧ some g1 ≠ v.ownBlock
theorem psimple_as {expr : P Tree} {c : Nat} (f : Nat) (hf : f ≤ 100000000) (HP : PartAs 37 expr c) : PartAs 131 (simpleP f expr) (c + 1) := by
  intro w r E d s t s' hR hE hd hm
  have hrl := hR.lt
  have hK := Kp.refl r w
  replace hm := look_some hm
  obtain ⟨q, hq⟩ : ∃ q, isT 1 [⟨#[112, 117, 115, 104]⟩] (nxt E s) = q := ⟨_, rfl⟩
  have hq2 : wd [112, 117, 115, 104] (nxt E s) = q := (isT_wd _ _).symm.trans hq
  rw [hq2] at hm
  clear hq2
  go_enter Tryz.func131, Tryz.ntmps131
  go_upto_region 1 with fail
  have hzo := hR.lt
  have hko := hK.size
  have o := Own.new w #[.int .u8 0, .int .i64 0, .string ⟨#[]⟩, .int .u64 0, .slice none 0 0] 25
  replace hR := hR.alloc (.cells #[.int .u8 0, .int .i64 0, .string ⟨#[]⟩, .int .u64 0, .slice none 0 0] 25)
  replace hK := hK.alloc (.cells #[.int .u8 0, .int .i64 0, .string ⟨#[]⟩, .int .u64 0, .slice none 0 0] 25)
  generalize hw : w.alloc (.cells #[.int .u8 0, .int .i64 0, .string ⟨#[]⟩, .int .u64 0, .slice none 0 0] 25) = w1 at hR hK o ⊢
  clear hw
  have hs1 := o.lt
  go_wp2_with fail
  refine (pword_as (hR.alloc _) hE (xs := [⟨#[112, 117, 115, 104]⟩]) (Own.new w1 _ _) 1 rfl (by omega) q hq).mono ?_
  rintro en w2 ⟨rfl, hR2, hb⟩
  have hs2 := (((Kp.refl r w1).alloc _).trans (Kp.of hb)).size
  replace o := (o.alloc _).below hb
  replace hK := (hK.alloc _).trans (Kp.of hb)
  replace hR := hR2
  clear hb hR2
  clear hq
  cases q with
  | true =>
    rw [if_pos rfl] at hm
    obtain ⟨m, s1, h1, h2⟩ := bnd_some hm
    obtain ⟨rfl, rfl⟩ := ret_some h2
    clear hm h2
    go_wp2_with fail
    refine (pwithValues_as HP 54 54 rfl 2 (by omega) 2 rfl _ _ _ _ _ _ _ hR hE hd h1).mono ?_
    rintro en w3 ⟨k1, a1, b1, n1x, v1, rfl, n1, hR2, hK2⟩
    have hs3 := (((Kp.refl r w2)).trans hK2).size
    replace o := (o).kp hK2 (by omega)
    replace hK := (hK).trans hK2
    replace hR := hR2
    clear hK2 hR2
    have n1i := KI.refl w2.heap.size w3.heap.size w3
    clear n1i
    go_wp2_with fail
    refine (pdo_as _ _ w2.heap.size _ _ _ _ _ (by omega) n1).mono ?_
    rintro en w4 ⟨k9, a9, b9, n9, v9, rfl, hN9, hb⟩
    have hR2 := hR.below hb
    have hs4 := (((Kp.refl r w3)).trans (Kp.of hb)).size
    replace o := (o).below hb
    replace hK := (hK).trans (Kp.of hb)
    replace hR := hR2
    clear hb hR2
    go_wp2_with (refine wpList_put5 rfl (.tmp 2) (.tmp 13) rfl rfl w.heap.size rfl rfl (o) ⟨rfl, rfl, rfl, rfl, hN9.2.2.2.2.one1⟩ ?_; intro wz oz gz)
    refine bodyPost_cell1 (t := 25) rfl rfl rfl oz Tryz.underlying25 rfl (by kernel_rfl) ?_
    exact ⟨_, _, _, _, _, rfl, hN9.row fun x => (x.grown gz (by omega)).mono (by omega), (hR).grown gz (some_lt (by omega)), (hK).grown gz (some_le (by omega))⟩
  | false =>
    rw [if_neg (by simp)] at hm
    obtain ⟨n0, s1, h1, h2⟩ := bnd_some hm
    obtain ⟨m, s2, h3, h4⟩ := bnd_some h2
    clear hm h2
    go_wp2_with fail
    refine (pnameOrCall_as HP f hf _ _ _ _ _ _ _ hR hE hd h1).mono ?_
    rintro en w3 ⟨k1, a1, b1, n1x, v1, rfl, n1, hR2, hK2⟩
    have hs3 := (((Kp.refl r w2)).trans hK2).size
    replace o := (o).kp hK2 (by omega)
    replace hK := (hK).trans hK2
    replace hR := hR2
    clear hK2 hR2
    have n1i := KI.refl w2.heap.size w3.heap.size w3
    clear n1i
    go_wp2_with fail
    refine (ptails_as HP f hf _ _ _ _ _ _ _ _ w2.heap.size _ _ _ _ _ hR hE hd (by omega) (by omega) n1 h3).mono ?_
    rintro en w4 ⟨k2, a2, b2, n2x, v2, rfl, n2, hR2, hK2⟩
    obtain ⟨ao2, cap2, rfl⟩ := n2.q.shape
    clear n1
    have hs4 := (((Kp.refl r w3)).trans hK2).size
    replace o := (o).kp hK2 (by omega)
    replace hK := (hK).trans hK2
    replace hR := hR2
    clear hK2 hR2
    have n2i := KI.refl w2.heap.size w4.heap.size w4
    go_upto_region 4 with fail
    have hzm1 := hR.lt
    have hkm1 := hK.size
    have m1 := Own.new w4 #[.int .u8 k2, .int .i64 a2, .string b2, .int .u64 n2x, .slice ao2 m.kids.length cap2] 25
    replace hR := hR.alloc (.cells #[.int .u8 k2, .int .i64 a2, .string b2, .int .u64 n2x, .slice ao2 m.kids.length cap2] 25)
    replace hK := hK.alloc (.cells #[.int .u8 k2, .int .i64 a2, .string b2, .int .u64 n2x, .slice ao2 m.kids.length cap2] 25)
    replace o := o.alloc (.cells #[.int .u8 k2, .int .i64 a2, .string b2, .int .u64 n2x, .slice ao2 m.kids.length cap2] 25)
    replace n2i := n2i.alloc (by omega) (.cells #[.int .u8 k2, .int .i64 a2, .string b2, .int .u64 n2x, .slice ao2 m.kids.length cap2] 25)
    generalize hw : w4.alloc (.cells #[.int .u8 k2, .int .i64 a2, .string b2, .int .u64 n2x, .slice ao2 m.kids.length cap2] 25) = w5 at hR hK m1 o n2i ⊢
    clear hw
    have hs5 := m1.lt
    have n2c := n2.ki n2i (Nat.le_refl _)
    clear n2i
    by_cases hk : m.kind = 45
    · rw [if_pos (by simp [hk])] at h4
      obtain ⟨rfl, rfl⟩ := ret_some h4
      have hk2 : (k2 == 45) = true := by have := n2c.1; simp; omega
      have hk3 : k2 = 45 := by have := n2c.1; omega
      subst hk3
      obtain ⟨m10, m11, m12, m13, m14, m1f⟩ := m1.five
      go_wp2_with fail
      refine (pdo_as _ _ w2.heap.size _ _ _ _ _ (by omega) n2c).mono ?_
      rintro en w6 ⟨k9, a9, b9, n9, v9, rfl, hN9, hb⟩
      have hR2 := hR.below hb
      have hs6 := (((Kp.refl r w5)).trans (Kp.of hb)).size
      replace o := (o).below hb
      replace m1 := (m1).below hb
      replace hK := (hK).trans (Kp.of hb)
      replace hR := hR2
      clear hb hR2
      go_wp2_with (refine wpList_put5 rfl (.tmp 2) (.tmp 22) rfl rfl w.heap.size rfl rfl (o) ⟨rfl, rfl, rfl, rfl, hN9.2.2.2.2.one1⟩ ?_; intro wz oz gz)
      refine bodyPost_cell1 (t := 25) rfl rfl rfl oz Tryz.underlying25 rfl (by kernel_rfl) ?_
      exact ⟨_, _, _, _, _, rfl, hN9.row fun x => (x.grown gz (by omega)).mono (by omega), (hR).grown gz (some_lt (by omega)), (hK).grown gz (some_le (by omega))⟩
    · rw [if_neg (by simp [hk])] at h4
      have hk2 : (k2 == 45) = false := by have := n2c.1; simp; omega
      obtain ⟨l, s3, h5, h6⟩ := bnd_some h4
      obtain ⟨tk, s4, h7, h8⟩ := bnd_some h6
      obtain ⟨x1, s5, h9, h10⟩ := bnd_some h8
      obtain ⟨rfl, rfl⟩ := ret_some h10
      obtain ⟨k, tx, nn, a, e, ht⟩ := tokIs tk
      obtain ⟨gb, hgb⟩ : ∃ gb, (m.kind == 44) = gb := ⟨_, rfl⟩
      have hgk : (k2 == 44) = gb := by rw [← hgb]; have := n2c.1; rw [Bool.eq_iff_iff]; simp; omega
      rw [hgb] at h5
      clear h4 h6 h8 h10 hgb hk
      obtain ⟨m10, m11, m12, m13, m14, m1f⟩ := m1.five
      go_wp2_with fail
      have hrow := Row.one n2c (Nat.le_refl _) (by omega)
      replace hR := hR.alloc (.cells #[.int .u8 k2, .int .i64 a2, .string b2, .int .u64 n2x, .slice ao2 m.kids.length cap2] 25)
      replace hK := hK.alloc (.cells #[.int .u8 k2, .int .i64 a2, .string b2, .int .u64 n2x, .slice ao2 m.kids.length cap2] 25)
      replace o := o.alloc (.cells #[.int .u8 k2, .int .i64 a2, .string b2, .int .u64 n2x, .slice ao2 m.kids.length cap2] 25)
      replace m1 := m1.alloc (.cells #[.int .u8 k2, .int .i64 a2, .string b2, .int .u64 n2x, .slice ao2 m.kids.length cap2] 25)
      have hsx : w5.heap.size < (w5.alloc (.cells #[.int .u8 k2, .int .i64 a2, .string b2, .int .u64 n2x, .slice ao2 m.kids.length cap2] 25)).heap.size := by rw [World.size_alloc]; omega
      generalize hw : w5.alloc (.cells #[.int .u8 k2, .int .i64 a2, .string b2, .int .u64 n2x, .slice ao2 m.kids.length cap2] 25) = wl at hR hK o m1 hrow hsx ⊢
      clear hw n2c m10 m11 m12 m13 m14 m1f
      go_loopg [4] f (fun g v wr => SetRel w r E d gb l s3 w2.heap.size w.heap.size w4.heap.size #[.int .u8 k2, .int .i64 a2, .string b2, .int .u64 n2x, .slice ao2 m.kids.length cap2] g v wr)
      case atStart => exact ⟨[m], s2, h5, hR, hrow, o, m1, hK, by simp; omega, by omega, by intro q; simp [Value.ownBlock] at q; omega⟩
      case round =>
        clear hR hK hrow o m1 h5
        obtain ⟨acc, sl, hm, hR, hrow, o, m1, hK, hlen, hBs, hvm⟩ := hrel
        cases gk with
        | zero => cases hm
        | succ gk =>
          unfold setL at hm
          replace hm := look_some hm
          obtain ⟨ao, cap, rfl⟩ := hrow.shape
          have hw0 := hK.size
          have hrowi := KI.refl w2.heap.size wr.heap.size wr
          have hzr := hR.lt
          obtain ⟨m10, m11, m12, m13, m14, m1f⟩ := m1.five
          cases gb with
          | false =>
            rw [if_neg (by simp)] at hm
            obtain ⟨rfl, rfl⟩ := ret_some hm
            obtain ⟨q, hq⟩ : ∃ q, isT 4 [⟨#[61]⟩] (nxt E sl) = q := ⟨_, rfl⟩
            have hq2 : sg [61] (nxt E sl) = q := (isT_sg _ _).symm.trans hq
            have hn : needT q E d sl = some (tk, s4) := by rw [← hq2]; exact h7
            clear hq2
            go_wp2_with fail
            refine (psign_as (hR.alloc _) hE (xs := [⟨#[61]⟩]) (Own.new wr _ _) 1 rfl (by omega) q hq).mono ?_
            rintro en w21 ⟨rfl, hR2, hb⟩
            have hs21 := (((Kp.refl r wr).alloc _).trans (Kp.of hb)).size
            replace o := (o.alloc _).below hb
            replace m1 := (m1.alloc _).below hb
            replace hrowi := hrowi.kp (by omega) (((Kp.refl r _).alloc _).trans (Kp.of hb)) (by omega)
            replace hK := (hK.alloc _).trans (Kp.of hb)
            replace hR := hR2
            clear hb hR2
            go_wp2_with fail
            refine (pneed_as hR hE q hn ht).mono ?_
            rintro en w22 ⟨rfl, hR2, hK2⟩
            have hs22 := (((Kp.refl r w21)).trans hK2).size
            replace o := (o).kp hK2 (by omega)
            replace m1 := (m1).kp hK2 (by omega)
            replace hrowi := hrowi.kp (by omega) (((Kp.refl r _)).trans hK2) (by omega)
            replace hK := (hK).trans hK2
            replace hR := hR2
            clear hK2 hR2
            clear hq hn
            have hrow0 := hrow.ki hrowi (Nat.le_refl _)
            have hob := o.lt
            go_wp2_with fail
            refine (HP _ _ _ _ _ _ _ hR hE (by omega) h9).mono ?_
            rintro en wx ⟨k1, a1, b1, n1x, v1, rfl, n1, hR2, hK2⟩
            have hs5 := hK2.size
            replace hR := hR2.alloc (.cells #[.int .u8 k1, .int .i64 a1, .string b1, .int .u64 n1x, v1] 25)
            have hK4 := hK2.alloc (.cells #[.int .u8 k1, .int .i64 a1, .string b1, .int .u64 n1x, v1] 25)
            replace hK := hK.trans hK4
            replace o := (o.kp hK2 (by omega)).alloc (.cells #[.int .u8 k1, .int .i64 a1, .string b1, .int .u64 n1x, v1] 25)
            have hcs := (n1.row fun x => x.alloc (.cells #[.int .u8 k1, .int .i64 a1, .string b1, .int .u64 n1x, v1] 25)).cells
            have hb := Own.new wx #[.int .u8 k1, .int .i64 a1, .string b1, .int .u64 n1x, v1] 25
            have hal : acc.length + 1 ≤ 1000000000 := by omega
            have hww : w22.heap.size ≤ (wx.alloc (.cells #[.int .u8 k1, .int .i64 a1, .string b1, .int .u64 n1x, v1] 25)).heap.size := by rw [World.size_alloc]; omega
            have hkeep : ∀ (g : Nat) (cur : Array Value), w2.heap.size ≤ g → Own w22 g cur 25 → Own (wx.alloc (.cells #[.int .u8 k1, .int .i64 a1, .string b1, .int .u64 n1x, v1] 25)) g cur 25 := fun g cur hg ho => ho.kp hK4 (by omega)
            have hbs : w2.heap.size ≤ w22.heap.size := by omega
            have hwg : ∀ k : Nat, w2.heap.size ≤ k → r < k := fun k hk => by omega
            have hwo : ∀ k : Nat, w2.heap.size ≤ k → w.heap.size < k := fun k hk => by omega
            clear hK2 hR2 hK4 hs5
            go_wp2_with (first | (at_builtin; refine wpList_appN rfl (.tmp 53) (.tmp 56) rfl w2.heap.size _ acc rfl w22 hrow0 hkeep [x1] 1 1 rfl wx.heap.size rfl _ hb hcs hal hbs hww ?_; intro v' wy hrow' gy hvb; have oy := o.grown gy (fun e => Nat.lt_irrefl _ (hwo _ (hvb _ e.symm).1)); obtain ⟨aoy, capy, rfl⟩ := hrow'.shape) | (refine wpList_put5 rfl (.tmp 2) (.tmp 58) rfl rfl w.heap.size rfl rfl oy ⟨rfl, rfl, rfl, rfl, rfl⟩ ?_; intro wz oz gz))
            refine bodyPost_cell1 (t := 25) rfl rfl rfl oz Tryz.underlying25 rfl (by kernel_rfl) ?_
            replace hR := hR.grown gy (fun k hk => hwg k (hvb k hk).1)
            replace hK := hK.grown gy (fun k hk => Nat.le_of_lt (hwo k (hvb k hk).1))
            have hll : (acc ++ [x1]).length = acc.length + 1 := by simp
            exact ⟨_, _, _, _, _, rfl, ⟨rfl, ht.2.2.2.1, rfl, rfl, by rw [← hll]; exact (hrow'.grown gz (hwo _ (Nat.le_refl _))).mono (Nat.le_of_lt (hwo _ (Nat.le_refl _)))⟩, (hR).grown gz (some_lt hrl), (hK).grown gz (some_le (Nat.le_refl _))⟩
          | true =>
            obtain ⟨q, hq⟩ : ∃ q, isT 4 [⟨#[44]⟩] (nxt E sl) = q := ⟨_, rfl⟩
            have hq2 : sg [44] (nxt E sl) = q := (isT_sg _ _).symm.trans hq
            rw [hq2, Bool.true_and] at hm
            clear hq2
            go_wp2_with fail
            refine (psign_as (hR.alloc _) hE (xs := [⟨#[44]⟩]) (Own.new wr _ _) 1 rfl (by omega) q hq).mono ?_
            rintro en w21 ⟨rfl, hR2, hb⟩
            have hs21 := (((Kp.refl r wr).alloc _).trans (Kp.of hb)).size
            replace o := (o.alloc _).below hb
            replace m1 := (m1.alloc _).below hb
            replace hrowi := hrowi.kp (by omega) (((Kp.refl r _).alloc _).trans (Kp.of hb)) (by omega)
            replace hK := (hK.alloc _).trans (Kp.of hb)
            replace hR := hR2
            clear hb hR2
            clear hq m10 m11 m12 m13 m14 m1f
            cases q with
            | false =>
              rw [if_neg (by simp)] at hm
              obtain ⟨rfl, rfl⟩ := ret_some hm
              obtain ⟨q, hq⟩ : ∃ q, isT 4 [⟨#[61]⟩] (nxt E sl) = q := ⟨_, rfl⟩
              have hq2 : sg [61] (nxt E sl) = q := (isT_sg _ _).symm.trans hq
              have hn : needT q E d sl = some (tk, s4) := by rw [← hq2]; exact h7
              clear hq2
              go_wp2_with fail
              refine (psign_as (hR.alloc _) hE (xs := [⟨#[61]⟩]) (Own.new w21 _ _) 1 rfl (by omega) q hq).mono ?_
              rintro en w22 ⟨rfl, hR2, hb⟩
              have hs22 := (((Kp.refl r w21).alloc _).trans (Kp.of hb)).size
              replace o := (o.alloc _).below hb
              replace m1 := (m1.alloc _).below hb
              replace hrowi := hrowi.kp (by omega) (((Kp.refl r _).alloc _).trans (Kp.of hb)) (by omega)
              replace hK := (hK.alloc _).trans (Kp.of hb)
              replace hR := hR2
              clear hb hR2
              go_wp2_with fail
              refine (pneed_as hR hE q hn ht).mono ?_
              rintro en w23 ⟨rfl, hR2, hK2⟩
              have hs23 := (((Kp.refl r w22)).trans hK2).size
              replace o := (o).kp hK2 (by omega)
              replace m1 := (m1).kp hK2 (by omega)
              replace hrowi := hrowi.kp (by omega) (((Kp.refl r _)).trans hK2) (by omega)
              replace hK := (hK).trans hK2
              replace hR := hR2
              clear hK2 hR2
              clear hq hn
              have hrow0 := hrow.ki hrowi (Nat.le_refl _)
              have hob := o.lt
              go_wp2_with fail
              refine (HP _ _ _ _ _ _ _ hR hE (by omega) h9).mono ?_
              rintro en wx ⟨k1, a1, b1, n1x, v1, rfl, n1, hR2, hK2⟩
              have hs5 := hK2.size
              replace hR := hR2.alloc (.cells #[.int .u8 k1, .int .i64 a1, .string b1, .int .u64 n1x, v1] 25)
              have hK4 := hK2.alloc (.cells #[.int .u8 k1, .int .i64 a1, .string b1, .int .u64 n1x, v1] 25)
              replace hK := hK.trans hK4
              replace o := (o.kp hK2 (by omega)).alloc (.cells #[.int .u8 k1, .int .i64 a1, .string b1, .int .u64 n1x, v1] 25)
              have hcs := (n1.row fun x => x.alloc (.cells #[.int .u8 k1, .int .i64 a1, .string b1, .int .u64 n1x, v1] 25)).cells
              have hb := Own.new wx #[.int .u8 k1, .int .i64 a1, .string b1, .int .u64 n1x, v1] 25
              have hal : acc.length + 1 ≤ 1000000000 := by omega
              have hww : w23.heap.size ≤ (wx.alloc (.cells #[.int .u8 k1, .int .i64 a1, .string b1, .int .u64 n1x, v1] 25)).heap.size := by rw [World.size_alloc]; omega
              have hkeep : ∀ (g : Nat) (cur : Array Value), w2.heap.size ≤ g → Own w23 g cur 25 → Own (wx.alloc (.cells #[.int .u8 k1, .int .i64 a1, .string b1, .int .u64 n1x, v1] 25)) g cur 25 := fun g cur hg ho => ho.kp hK4 (by omega)
              have hbs : w2.heap.size ≤ w23.heap.size := by omega
              have hwg : ∀ k : Nat, w2.heap.size ≤ k → r < k := fun k hk => by omega
              have hwo : ∀ k : Nat, w2.heap.size ≤ k → w.heap.size < k := fun k hk => by omega
              clear hK2 hR2 hK4 hs5
              go_wp2_with (first | (at_builtin; refine wpList_appN rfl (.tmp 53) (.tmp 56) rfl w2.heap.size _ acc rfl w23 hrow0 hkeep [x1] 1 1 rfl wx.heap.size rfl _ hb hcs hal hbs hww ?_; intro v' wy hrow' gy hvb; have oy := o.grown gy (fun e => Nat.lt_irrefl _ (hwo _ (hvb _ e.symm).1)); obtain ⟨aoy, capy, rfl⟩ := hrow'.shape) | (refine wpList_put5 rfl (.tmp 2) (.tmp 58) rfl rfl w.heap.size rfl rfl oy ⟨rfl, rfl, rfl, rfl, rfl⟩ ?_; intro wz oz gz))
              refine bodyPost_cell1 (t := 25) rfl rfl rfl oz Tryz.underlying25 rfl (by kernel_rfl) ?_
              replace hR := hR.grown gy (fun k hk => hwg k (hvb k hk).1)
              replace hK := hK.grown gy (fun k hk => Nat.le_of_lt (hwo k (hvb k hk).1))
              have hll : (acc ++ [x1]).length = acc.length + 1 := by simp
              exact ⟨_, _, _, _, _, rfl, ⟨rfl, ht.2.2.2.1, rfl, rfl, by rw [← hll]; exact (hrow'.grown gz (hwo _ (Nat.le_refl _))).mono (Nat.le_of_lt (hwo _ (Nat.le_refl _)))⟩, (hR).grown gz (some_lt hrl), (hK).grown gz (some_le (Nat.le_refl _))⟩
            | true =>
              rw [if_pos rfl] at hm
              obtain ⟨tk0, s6, h11, h12⟩ := bnd_some hm
              obtain ⟨rfl, rfl⟩ := take_some h11
              obtain ⟨t1, s7, h13, h14⟩ := bnd_some h12
              obtain ⟨k0, tx0, nn0, a0, e0, ht0⟩ := tokIs (nxt E sl)
              clear hm h11 h12
              go_wp2_with fail
              refine (ptake_as hR hE ht0).mono ?_
              rintro en w22 ⟨rfl, hR2, hK2⟩
              have hs22 := (((Kp.refl r w21)).trans hK2).size
              replace o := (o).kp hK2 (by omega)
              replace m1 := (m1).kp hK2 (by omega)
              replace hrowi := hrowi.kp (by omega) (((Kp.refl r _)).trans hK2) (by omega)
              replace hK := (hK).trans hK2
              replace hR := hR2
              clear hK2 hR2
              have hrow0 := hrow.ki hrowi (Nat.le_refl _)
              have hob := o.lt
              have hmb := m1.lt
              go_wp2_with fail
              refine (pusedName_as _ _ _ _ _ _ _ hR hE (by omega) h13).mono ?_
              rintro en wx ⟨k1, a1, b1, n1x, v1, rfl, n1, hR2, hK2⟩
              have hs5 := hK2.size
              replace hR := hR2.alloc (.cells #[.int .u8 k1, .int .i64 a1, .string b1, .int .u64 n1x, v1] 25)
              have hK4 := hK2.alloc (.cells #[.int .u8 k1, .int .i64 a1, .string b1, .int .u64 n1x, v1] 25)
              replace hK := hK.trans hK4
              replace o := (o.kp hK2 (by omega)).alloc (.cells #[.int .u8 k1, .int .i64 a1, .string b1, .int .u64 n1x, v1] 25)
              replace m1 := (m1.kp hK2 (by omega)).alloc (.cells #[.int .u8 k1, .int .i64 a1, .string b1, .int .u64 n1x, v1] 25)
              have hcs := (n1.row fun x => x.alloc (.cells #[.int .u8 k1, .int .i64 a1, .string b1, .int .u64 n1x, v1] 25)).cells
              have hb := Own.new wx #[.int .u8 k1, .int .i64 a1, .string b1, .int .u64 n1x, v1] 25
              have hal : acc.length + 1 ≤ 1000000000 := by omega
              have hww : w22.heap.size ≤ (wx.alloc (.cells #[.int .u8 k1, .int .i64 a1, .string b1, .int .u64 n1x, v1] 25)).heap.size := by rw [World.size_alloc]; omega
              have hkeep : ∀ (g : Nat) (cur : Array Value), w2.heap.size ≤ g → Own w22 g cur 25 → Own (wx.alloc (.cells #[.int .u8 k1, .int .i64 a1, .string b1, .int .u64 n1x, v1] 25)) g cur 25 := fun g cur hg ho => ho.kp hK4 (by omega)
              have hbs : w2.heap.size ≤ w22.heap.size := by omega
              have hwg : ∀ k : Nat, w2.heap.size ≤ k → r < k := fun k hk => by omega
              have hwo : ∀ k : Nat, w2.heap.size ≤ k → w.heap.size < k := fun k hk => by omega
              have hmx : w4.heap.size ≠ (wx.alloc (.cells #[.int .u8 k1, .int .i64 a1, .string b1, .int .u64 n1x, v1] 25)).heap.size := by rw [World.size_alloc]; omega
              have hbx : w2.heap.size ≤ (wx.alloc (.cells #[.int .u8 k1, .int .i64 a1, .string b1, .int .u64 n1x, v1] 25)).heap.size := by omega
              clear hK2 hR2 hK4 hs5 h13
              go_wp2_with (at_builtin; refine wpList_appN2 rfl (.tmp 39) (.tmp 42) rfl w2.heap.size _ acc rfl w22 hrow0 hkeep [t1] 1 1 rfl wx.heap.size rfl _ hb hcs hal hbs hww ?_; intro v' wy hrow' gy hvb hvn)
              have hR6 := hR.grown gy (fun k hk => hwg k (hvb k hk).1)
              have hK6 := hK.grown gy (fun k hk => Nat.le_of_lt (hwo k (hvb k hk).1))
              have o6 := o.grown gy (fun e => Nat.lt_irrefl _ (hwo _ (hvb _ e.symm).1))
              have m6 := m1.grown gy hvm
              have hm6 : some w4.heap.size ≠ v'.ownBlock := by rcases hvn with q | q <;> rw [q]; exact hvm; exact some_ne hmx
              have hs6 := gy.size
              go_roundg gk
              case rel => exact ⟨acc ++ [t1], s7, h14, hR6, hrow', o6, m6, hK6, by rw [List.length_append]; simp; omega, by omega, hm6⟩
              case measure => omega
theorem fn_unary : FnIs 71 := fun a w => by kernel_rfl
theorem fn_line : FnIs 52 := fun a w => by kernel_rfl
theorem fn_block : FnIs 70 := fun a w => by kernel_rfl
theorem fn_branch : FnIs 107 := fun a w => by kernel_rfl
theorem fn_arm : FnIs 133 := fun a w => by kernel_rfl
theorem fn_record : FnIs 50 := fun a w => by kernel_rfl
theorem fn_function : FnIs 51 := fun a w => by kernel_rfl
theorem step_call2 {W : World} {ops : Array Oper} {o : Oper} {a : Act} {K : Act → World → Prop} {Q : Exit → Act → World → Prop} {X : Prop} (hgd : o.guard = none) (F : Nat) (x y : Operand) (ty ty2 : TypeId)
    (ho : o.op = .call { callee := .value (.func F), args := #[x, y], argTypes := #[ty, ty2] }) (hfn : FnIs F) (v u : Value) (hx : a.eval x = v) (hy : a.eval y = u) {R : Ending → World → Prop} (hc : Calls Tryz.prog F #[v, u] W R)
    (h : ∀ en w', R en w' → ∃ u, en = .returned u ∧ K (a.put o.dst u) w') : if Region.wanted o (yielded ops a.tmps) = true then Oper.wp Tryz.prog o a W K Q else X := by
  have hw : Region.wanted o (yielded ops a.tmps) = true := by simp [Region.wanted, hgd]
  rw [if_pos hw]
  have hf : ∀ (b : Array Value) (w : World), (callFunc F b).run Tryz.prog w = .ok (.enter F b) w := hfn
  have hfv : a.eval (.func F) = .func (.func F) #[] #[] := rfl
  unfold Oper.wp execOp
  simp only [ho]
  simp [resolve, invoke, hx, hy, hfv, Deferred.ofValue]
  rw [hf, Oper.upon_enter]
  refine hc.mono ?_
  intro en w' hr
  obtain ⟨u, rfl, hk⟩ := h en w' hr
  exact hk
theorem KI.grownO {a b : Nat} {w w' w'' : World} {row : Option Nat} (h : KI a b w w') (hb : b ≤ w'.heap.size) (hk : w'.grownBy w'' row) (hr : ∀ k, row = some k → k < a ∨ b ≤ k) : KI a b w w'' := fun g h1 h2 => (hk.block g (by omega) (fun e => by have := hr g e.symm; omega)).trans (h g h1 h2)
theorem RowQ.three {w : World} {Q : Nat → Prop} (s1 s2 : Nat) (hs : s1 ≤ s2) {t : Tree} {k a : Int} {b : ByteArray} {n : Int} {v : Value} (h : NodeQ w (fun g => Q g ∧ g < s1) t k a b n v) {t' : Tree} {k' a' : Int} {b' : ByteArray} {n' : Int} {v' : Value} (h' : NodeQ w (fun g => Q g ∧ s1 ≤ g ∧ g < s2) t' k' a' b' n' v')
    {t2 : Tree} {k2 a2 : Int} {b2 : ByteArray} {n2 : Int} {v2 : Value} (h2 : NodeQ w (fun g => Q g ∧ s2 ≤ g) t2 k2 a2 b2 n2 v2) (hn : Q w.heap.size) :
    RowQ (w.alloc (.cells #[.int .u8 k, .int .i64 a, .string b, .int .u64 n, v, .int .u8 k', .int .i64 a', .string b', .int .u64 n', v', .int .u8 k2, .int .i64 a2, .string b2, .int .u64 n2, v2] 25)) Q (.slice (some ⟨w.heap.size, 0, none⟩) 3 3) [t, t', t2] := by
  obtain ⟨F, f1, f2, f3⟩ := h.cells
  obtain ⟨G, g1, g2, g3⟩ := h'.cells
  obtain ⟨H, e1, e2, e3⟩ := h2.cells
  have hFG := nodup_apart f2 g2 (fun g hg => (f3 g hg).2) (fun g hg => (g3 g hg).2.1)
  have hlt : ∀ g ∈ F ++ G, g < s2 := fun g hg => by
    rcases List.mem_append.1 hg with hg | hg
    · have := (f3 g hg).2; omega
    · exact (g3 g hg).2.2
  refine RowQ.of (F := (F ++ G) ++ H) (Cells.append _ _ _ (Cells.append _ _ _ f1 _ _ _ g1) _ _ _ e1) (nodup_apart hFG e2 hlt (fun g hg => (e3 g hg).2)) ?_ hn 3 rfl (by unfold maxLen; omega)
  intro g hg
  rcases List.mem_append.1 hg with hg | hg
  · rcases List.mem_append.1 hg with hg | hg
    · exact (f3 g hg).1
    · exact (g3 g hg).1
  · exact (e3 g hg).1
theorem RowQ.four {w : World} {Q : Nat → Prop} (s1 s2 s3 : Nat) (hs : s1 ≤ s2) (hs2 : s2 ≤ s3) {t : Tree} {k a : Int} {b : ByteArray} {n : Int} {v : Value} (h : NodeQ w (fun g => Q g ∧ g < s1) t k a b n v) {t' : Tree} {k' a' : Int} {b' : ByteArray} {n' : Int} {v' : Value} (h' : NodeQ w (fun g => Q g ∧ s1 ≤ g ∧ g < s2) t' k' a' b' n' v')
    {t2 : Tree} {k2 a2 : Int} {b2 : ByteArray} {n2 : Int} {v2 : Value} (h2 : NodeQ w (fun g => Q g ∧ s2 ≤ g ∧ g < s3) t2 k2 a2 b2 n2 v2) {t3 : Tree} {k3 a3 : Int} {b3 : ByteArray} {n3 : Int} {v3 : Value} (h3 : NodeQ w (fun g => Q g ∧ s3 ≤ g) t3 k3 a3 b3 n3 v3) (hn : Q w.heap.size) :
    RowQ (w.alloc (.cells #[.int .u8 k, .int .i64 a, .string b, .int .u64 n, v, .int .u8 k', .int .i64 a', .string b', .int .u64 n', v', .int .u8 k2, .int .i64 a2, .string b2, .int .u64 n2, v2, .int .u8 k3, .int .i64 a3, .string b3, .int .u64 n3, v3] 25)) Q (.slice (some ⟨w.heap.size, 0, none⟩) 4 4) [t, t', t2, t3] := by
  obtain ⟨F, f1, f2, f3⟩ := h.cells
  obtain ⟨G, g1, g2, g3⟩ := h'.cells
  obtain ⟨H, e1, e2, e3⟩ := h2.cells
  obtain ⟨I, i1, i2, i3⟩ := h3.cells
  have hFG := nodup_apart f2 g2 (fun g hg => (f3 g hg).2) (fun g hg => (g3 g hg).2.1)
  have hlt : ∀ g ∈ F ++ G, g < s2 := fun g hg => by
    rcases List.mem_append.1 hg with hg | hg
    · have := (f3 g hg).2; omega
    · exact (g3 g hg).2.2
  have hFGH := nodup_apart hFG e2 hlt (fun g hg => (e3 g hg).2.1)
  have hlt2 : ∀ g ∈ (F ++ G) ++ H, g < s3 := fun g hg => by
    rcases List.mem_append.1 hg with hg | hg
    · have := hlt g hg; omega
    · exact (e3 g hg).2.2
  refine RowQ.of (F := ((F ++ G) ++ H) ++ I) (Cells.append _ _ _ (Cells.append _ _ _ (Cells.append _ _ _ f1 _ _ _ g1) _ _ _ e1) _ _ _ i1) (nodup_apart hFGH i2 hlt2 (fun g hg => (i3 g hg).2)) ?_ hn 4 rfl (by unfold maxLen; omega)
  intro g hg
  rcases List.mem_append.1 hg with hg | hg
  · rcases List.mem_append.1 hg with hg | hg
    · rcases List.mem_append.1 hg with hg | hg
      · exact (f3 g hg).1
      · exact (g3 g hg).1
    · exact (e3 g hg).1
  · exact (i3 g hg).1
theorem Row.q {w : World} {B : Nat} {v : Value} {ts : List Tree} (h : Row w B v ts) : RowQ w (fun g => B ≤ g) v ts := h
theorem RowQ.row {w : World} {B : Nat} {v : Value} {ts : List Tree} (h : RowQ w (fun g => B ≤ g) v ts) : Row w B v ts := h
theorem Row.q_ki {w w' : World} {a b x : Nat} {v : Value} {ts : List Tree} (h : Row w a v ts) (hk : KI a b w w') (hb : w.heap.size ≤ b) (hx : x < a ∨ w.heap.size ≤ x) : RowQ w' (fun g => a ≤ g ∧ g ≠ x) v ts :=
  (h.q.imp fun g h1 h2 => ⟨h2, by omega⟩).on fun g hg cur ho => (hk g hg.1 (Nat.lt_of_lt_of_le ho.lt hb)).trans ho
theorem RowQ.own {w : World} {Q : Nat → Prop} {v : Value} {ts : List Tree} (h : RowQ w Q v ts) : ∃ xs F1, w.ownsRow 0 25 5 v ts.length xs ∧ Cells w ts xs F1 ∧ F1.Nodup ∧ (∀ g ∈ F1, Q g) ∧ (∀ g ∈ F1, some g ≠ v.ownBlock) ∧ (∀ k, v.ownBlock = some k → Q k) := by
  obtain ⟨xs, F0, F1, h1, h2, h3, h4⟩ := h
  rw [List.nodup_append] at h3
  refine ⟨xs, F1, ⟨h1.1, ?_⟩, h2, h3.2.1, fun g hg => h4 g (by simp [hg]), fun g hg => ?_, fun k hk => ?_⟩
  · rcases h1.2 with ⟨rfl, h5, rfl⟩ | ⟨g, cap, cur, rfl, rfl, ho, r1, r2, r3, r4⟩
    · exact .inl ⟨rfl, h5⟩
    · exact .inr ⟨g, cap, cur, rfl, Nat.zero_le _, ho, r1, r2, r3, r4⟩
  · rcases h1.2 with ⟨rfl, h5, rfl⟩ | ⟨g', cap, cur, rfl, rfl, ho, r⟩
    · simp [Value.ownBlock]
    · intro e
      have e' : g = g' := by simpa [Value.ownBlock] using e
      exact h3.2.2 g' (by simp) g hg e'.symm
  · rcases h1.2 with ⟨rfl, h5, rfl⟩ | ⟨g', cap, cur, rfl, rfl, ho, r⟩
    · simp [Value.ownBlock] at hk
    · have e' : g' = k := by simpa [Value.ownBlock] using hk
      exact h4 k (by simp [e'])
theorem own_rowQ {w : World} {Q : Nat → Prop} {v : Value} {ts : List Tree} {xs : List Value} {F1 : List Nat} (h : w.ownsRow 0 25 5 v ts.length xs) (h2 : Cells w ts xs F1) (h3 : F1.Nodup) (h4 : ∀ g ∈ F1, Q g) (h5 : ∀ g ∈ F1, some g ≠ v.ownBlock) (h6 : ∀ k, v.ownBlock = some k → Q k) : RowQ w Q v ts := by
  rcases h.2 with ⟨rfl, h0⟩ | ⟨g, cap, cur, rfl, hg, ho, r1, r2, r3, r4⟩
  · exact ⟨xs, [], F1, ⟨h.1, .inl ⟨rfl, h0, rfl⟩⟩, h2, by simpa using h3, by simpa using h4⟩
  · refine ⟨xs, [g], F1, ⟨h.1, .inr ⟨g, cap, cur, rfl, rfl, ho, r1, r2, r3, r4⟩⟩, h2, ?_, ?_⟩
    · rw [List.singleton_append, List.nodup_cons]
      exact ⟨fun q => h5 g q (by simp [Value.ownBlock]), h3⟩
    · intro b hb
      rw [List.singleton_append, List.mem_cons] at hb
      rcases hb with rfl | hb
      · exact h6 _ (by simp [Value.ownBlock])
      · exact h4 b hb
theorem cells_one {W : World} : ∀ (us : List Tree) (ys : List Value) (F : List Nat), Cells W us ys F → ∀ u ∈ ys, u.oneCell' = true := by
  intro us
  induction us with
  | nil => intro ys F h u hu; rw [cells_nil] at h; rw [h.1] at hu; cases hu
  | cons t ts ih =>
    intro ys F h u hu
    obtain ⟨k, a, tx, n, ks⟩ := t
    rw [cells_cons] at h
    obtain ⟨v, xs, rest, F0, F1, F2, rfl, rfl, h1, h2, h3⟩ := h
    simp only [List.mem_cons] at hu
    rcases hu with rfl | rfl | rfl | rfl | rfl | hu
    · rfl
    · rfl
    · rfl
    · rfl
    · rcases h1.2 with ⟨rfl, _, _⟩ | ⟨g, cap, cur, rfl, _⟩ <;> rfl
    · exact ih rest F2 h3 u hu
theorem run_appQ (W : World) (ty : TypeId) (Q : Nat → Prop) (v : Value) (ts : List Tree) (W0 : World) (hrow0 : RowQ W0 Q v ts) (hkeep : ∀ (g : Nat) (cur : Array Value), Q g → Own W0 g cur 25 → Own W g cur 25) (us : List Tree) (m c : Nat) (hm : us.length = m)
    (b o : Nat) (cs : Array Value) (hA : ∀ j u, cs.toList[j]? = some u → W.cell? ⟨b, o + j, none⟩ = some u) (hcs : ∃ F, Cells W us cs.toList F ∧ F.Nodup ∧ (∀ g ∈ F, W0.heap.size ≤ g ∧ Q g))
    (h63 : ts.length + m ≤ 1000000000) (hsz : W0.heap.size ≤ W.heap.size) (hQ : Q W.heap.size) :
    ∃ v' w', (Builtin.append_ #[23, 23] ty #[v, .slice (some ⟨b, o, none⟩) m c]).run Tryz.prog W = .ok v' w' ∧ RowQ w' Q v' (ts ++ us) ∧ W.grownBy w' v.ownBlock ∧ (∀ k, v.ownBlock = some k → Q k ∧ k < W0.heap.size) ∧ (v'.ownBlock = v.ownBlock ∨ v'.ownBlock = some W.heap.size) := by
  obtain ⟨i8, hi, hz0, hz1, hz2⟩ := info_parts infoN
  obtain ⟨xs, F1, hown0, hc0, hn, hF, hne, hkq⟩ := hrow0.own
  obtain ⟨F, k1, k2, k3⟩ := hcs
  have hlt0 := Cells.lt _ _ _ hc0
  have hc : Cells W ts xs F1 := Cells.on _ _ _ hc0 fun g hg cur ho => hkeep g cur (hF g hg) ho
  have hown : W.ownsRow 0 25 5 v ts.length xs := by
    refine ⟨hown0.1, ?_⟩
    rcases hown0.2 with q | ⟨g, cap, cur, rfl, hg, ho, r⟩
    · exact .inl q
    · exact .inr ⟨g, cap, cur, rfl, hg, hkeep g cur (hkq g (by simp [Value.ownBlock])) ho, r⟩
  have k4 : ∀ g ∈ F, some g ≠ v.ownBlock := fun g hg e => by have := (hown0.lt g e.symm).2; have := (k3 g hg).1; omega
  have hA' : ∀ j u, cs.toList[j]? = some u → W.cell? ((⟨b, o, none⟩ : Addr).add j) = some u := by
    intro j u hu
    have hadd : (⟨b, o, none⟩ : Addr).add j = ⟨b, o + j, none⟩ := by unfold Addr.add; split <;> simp_all
    rw [hadd]; exact hA j u hu
  obtain ⟨v', w', hr, h1, h2, _, h4⟩ := run_append_own_at (P := Tryz.prog) W 0 23 ty 25 i8 _ 5 64 Tryz.underlying23 hi hz0 hz1 hz2 rfl (by omega) v ts.length xs hown ⟨b, o, none⟩ m c cs.toList (by rw [Cells.length _ _ _ k1, hm]) hA' (cells_one _ _ _ k1) (by unfold maxLen; omega) (by omega) (Nat.zero_le _)
  have e : ts.length + m = (ts ++ us).length := by rw [List.length_append, hm]
  rw [e] at h1
  have hk : ∀ g, g < W.heap.size → some g ≠ v.ownBlock → ∀ cur, Own W g cur 25 → Own w' g cur 25 := fun g hg hne cur ho => (h2.block g hg hne).trans ho
  have hlt1 := Cells.lt _ _ _ hc
  have hlt2 := Cells.lt _ _ _ k1
  refine ⟨v', w', hr, own_rowQ h1 (Cells.append _ _ _ (Cells.on _ _ _ hc fun g hg => hk g (hlt1 g hg) (hne g hg)) _ _ _ (Cells.on _ _ _ k1 fun g hg => hk g (hlt2 g hg) (k4 g hg))) (nodup_apart hn k2 hlt0 fun g hg => (k3 g hg).1) ?_ ?_ ?_, h2, fun k hk => ⟨hkq k hk, (hown0.lt k hk).2⟩, h4⟩
  · intro g hg
    rcases List.mem_append.1 hg with hg | hg
    · exact hF g hg
    · exact (k3 g hg).2
  · intro g hg e'
    have hcases : some g ≠ v.ownBlock ∧ g < W.heap.size := by
      rcases List.mem_append.1 hg with hg | hg
      · exact ⟨hne g hg, hlt1 g hg⟩
      · exact ⟨k4 g hg, hlt2 g hg⟩
    rcases h4 with h4 | h4
    · exact hcases.1 (e'.trans h4)
    · rw [h4] at e'
      have := Option.some.inj e'
      omega
  · intro k hk
    rcases h4 with h4 | h4
    · exact hkq k (h4.symm.trans hk)
    · rw [h4] at hk
      rw [← Option.some.inj hk]; exact hQ
theorem step_appQ {W : World} {ops : Array Oper} {o : Oper} {a : Act} {K : Act → World → Prop} {Q : Exit → Act → World → Prop} {E : Prop} (hgd : o.guard = none) (s x : Operand)
    (ho : o.op = .call { callee := .builtin .append, args := #[s, x], argTypes := #[23, 23] })
    (R : Nat → Prop) (v : Value) (ts : List Tree) (hs : a.eval s = v) (W0 : World) (hrow0 : RowQ W0 R v ts) (hkeep : ∀ (g : Nat) (cur : Array Value), R g → Own W0 g cur 25 → Own W g cur 25) (t : Tree) (k x1 : Int) (b1 : ByteArray) (n1 : Int) (v1 : Value)
    (b : Nat) (hx : a.eval x = .slice (some ⟨b, 0, none⟩) 1 1) (hb : Own W b #[.int .u8 k, .int .i64 x1, .string b1, .int .u64 n1, v1] 25) (hcs : NodeQ W (fun g => W0.heap.size ≤ g ∧ R g) t k x1 b1 n1 v1)
    (h63 : ts.length + 1 ≤ 1000000000) (hsz : W0.heap.size ≤ W.heap.size) (hQ : R W.heap.size)
    (h : ∀ ao cap w', RowQ w' R (.slice ao (ts ++ [t]).length cap) (ts ++ [t]) → W.grownBy w' v.ownBlock → (∀ k, v.ownBlock = some k → R k ∧ k < W0.heap.size) → K (a.put o.dst (.slice ao (ts ++ [t]).length cap)) w') :
    if Region.wanted o (yielded ops a.tmps) = true then Oper.wp Tryz.prog o a W K Q else E := by
  have hw : Region.wanted o (yielded ops a.tmps) = true := by simp [Region.wanted, hgd]
  rw [if_pos hw]
  obtain ⟨v', w', hr, h1, h2, h3, _⟩ := run_appQ W o.type R v ts W0 hrow0 hkeep [t] 1 1 rfl b 0 #[.int .u8 k, .int .i64 x1, .string b1, .int .u64 n1, v1] (fun j u hu => by rw [Nat.zero_add, cell_of_row _ b j _ 25 _ hb]; simpa using hu) hcs.cells h63 hsz hQ
  have hsh : ∃ ao cap, v' = .slice ao (ts ++ [t]).length cap := by
    obtain ⟨ys, G0, G1, g1, _⟩ := h1
    rcases g1.2 with ⟨rfl, h0, _⟩ | ⟨g, cap, cur, rfl, _⟩
    · exact ⟨none, 0, by rw [h0]⟩
    · exact ⟨_, _, rfl⟩
  obtain ⟨ao, cap, rfl⟩ := hsh
  unfold Oper.wp execOp
  simp only [ho, resolve, invoke, builtin, Sem.run_bind, Sem.run_pure, Result.andThen_ok, List.map_toArray, List.map_cons, List.map_nil, hs, hx, hr]
  exact h ao cap w' h1 h2 h3
end Go.Proofs.YtmhnbklchnnbaaaGreatDoor
