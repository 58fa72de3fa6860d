import Derived.Test.YtmhnbklchnnbaaaGreatDoorJStmt3
set_option maxHeartbeats 1000000
set_option maxRecDepth 100000
namespace Go.Proofs.YtmhnbklchnnbaaaGreatDoor
open Go.RowKit
set_option linter.unusedVariables false
theorem need_good {w : World} {r E d : Nat} {s : St} (h : RdAt w r E d s) {q : Bool} {t : Tok} {s' : St} (hn : needT q E d s = some (t, s')) : goodT t := by
  unfold needT at hn
  split at hn
  · cases hn; exact nxt_good h 0
  · cases hn; exact ⟨by simp [noT], by simp [noT]⟩
theorem pturn_as {expr : P Tree} {stmts : P (List Tree)} {c : Nat} (f : Nat) (HP : PartAs 37 expr c) (HB : PartAs 70 (blockP stmts) c) (HRo : ListAs 119 (roundsP f expr stmts) c) (HCh : ListAs 120 (choiceP f expr stmts) c) : TurnAs (fun lb => turnP f lb expr stmts) c := by
  intro lb b hlb0 w r E d s t s' hR hE hd hm
  have HLB : Hid (b = strN lb) := hlb0
  clear hlb0
  have hrl := hR.lt
  have hK := Kp.refl r w
  obtain ⟨tk, s1, h1, h2⟩ := bnd_some hm
  obtain ⟨q, hq⟩ : ∃ q, isT 1 [⟨#[119, 104, 105, 108, 101]⟩, ⟨#[102, 111, 114]⟩, ⟨#[115, 119, 105, 116, 99, 104]⟩] (nxt E s) = q := ⟨_, rfl⟩
  have hq2 : turnW (nxt E s) = q := (isT_turnW _).symm.trans hq
  have hn : needT q E d s = some (tk, s1) := by rw [← hq2]; exact h1
  have hg := need_good hR hn
  obtain ⟨k, tx, nn, a, e, ht⟩ := tokIs tk
  have e1 : (tx.toList == [119, 104, 105, 108, 101]) = (tk.2.1 == [119, 104, 105, 108, 101]) := betw_text hg ht ⟨#[119, 104, 105, 108, 101]⟩
  have e2 : (tx.toList == [102, 111, 114]) = (tk.2.1 == [102, 111, 114]) := betw_text hg ht ⟨#[102, 111, 114]⟩
  have e3 : (tx.toList == [115, 119, 105, 116, 99, 104]) = (tk.2.1 == [115, 119, 105, 116, 99, 104]) := betw_text hg ht ⟨#[115, 119, 105, 116, 99, 104]⟩
  clear hm h1 hq2
  go_enter Tryz.func108, Tryz.ntmps108
  go_upto_region 1 with fail
  have hzo := hR.lt
  have hko := hK.size
  have o := Own.new w #[.int .u8 0, .int .i64 0, .string ⟨#[]⟩, .int .u64 0, .slice none 0 0] 25
  replace hR := hR.alloc (.cells #[.int .u8 0, .int .i64 0, .string ⟨#[]⟩, .int .u64 0, .slice none 0 0] 25)
  replace hK := hK.alloc (.cells #[.int .u8 0, .int .i64 0, .string ⟨#[]⟩, .int .u64 0, .slice none 0 0] 25)
  generalize hw : w.alloc (.cells #[.int .u8 0, .int .i64 0, .string ⟨#[]⟩, .int .u64 0, .slice none 0 0] 25) = w1 at hR hK o ⊢
  clear hw
  have hs1 := o.lt
  go_wp2_with fail
  refine (pword_as (hR.alloc _) hE (xs := [⟨#[119, 104, 105, 108, 101]⟩, ⟨#[102, 111, 114]⟩, ⟨#[115, 119, 105, 116, 99, 104]⟩]) (Own.new w1 _ _) 3 rfl (by omega) q hq).mono ?_
  rintro en w2 ⟨rfl, hR2, hb⟩
  have hs2 := (((Kp.refl r w1).alloc _).trans (Kp.of hb)).size
  replace o := (o.alloc _).below hb
  replace hK := (hK.alloc _).trans (Kp.of hb)
  replace hR := hR2
  clear hb hR2
  go_wp2_with fail
  refine (pneed_as hR hE q hn ht).mono ?_
  rintro en w3 ⟨rfl, hR2, hK2⟩
  have hs3 := (((Kp.refl r w2)).trans hK2).size
  replace o := (o).kp hK2 (by omega)
  replace hK := (hK).trans hK2
  replace hR := hR2
  clear hK2 hR2
  clear hq hn
  go_upto_region 2 with fail
  have hzp := hR.lt
  have hkp := hK.size
  have p := Own.new w3 #[.int .u8 k, .string tx, .int .u64 nn, .int .i64 a, .int .i64 e] 77
  replace hR := hR.alloc (.cells #[.int .u8 k, .string tx, .int .u64 nn, .int .i64 a, .int .i64 e] 77)
  replace hK := hK.alloc (.cells #[.int .u8 k, .string tx, .int .u64 nn, .int .i64 a, .int .i64 e] 77)
  replace o := o.alloc (.cells #[.int .u8 k, .string tx, .int .u64 nn, .int .i64 a, .int .i64 e] 77)
  generalize hw : w3.alloc (.cells #[.int .u8 k, .string tx, .int .u64 nn, .int .i64 a, .int .i64 e] 77) = w4 at hR hK p o ⊢
  clear hw
  have hs4 := p.lt
  obtain ⟨p0, p1, p2, p3, p4, pf⟩ := p.five
  go_upto_region 3 with fail
  have hzm1 := hR.lt
  have hkm1 := hK.size
  have m1 := Own.new w4 #[.int .u8 0, .int .i64 a, .string b, .int .u64 0, .slice none 0 0] 25
  replace hR := hR.alloc (.cells #[.int .u8 0, .int .i64 a, .string b, .int .u64 0, .slice none 0 0] 25)
  replace hK := hK.alloc (.cells #[.int .u8 0, .int .i64 a, .string b, .int .u64 0, .slice none 0 0] 25)
  replace o := o.alloc (.cells #[.int .u8 0, .int .i64 a, .string b, .int .u64 0, .slice none 0 0] 25)
  replace p := p.alloc (.cells #[.int .u8 0, .int .i64 a, .string b, .int .u64 0, .slice none 0 0] 25)
  generalize hw : w4.alloc (.cells #[.int .u8 0, .int .i64 a, .string b, .int .u64 0, .slice none 0 0] 25) = w5 at hR hK m1 o p ⊢
  clear hw
  have hs5 := m1.lt
  clear p0 p1 p2 p3 p4 pf
  obtain ⟨p0, p1, p2, p3, p4, pf⟩ := p.five
  cases hx1 : (tk.2.1 == [119, 104, 105, 108, 101]) with
  | true =>
    rw [hx1, if_pos rfl] at h2
    rw [hx1] at e1
    obtain ⟨x1, s2, h3, h4⟩ := bnd_some h2
    obtain ⟨x2, s3, h5, h6⟩ := bnd_some h4
    obtain ⟨rfl, rfl⟩ := ret_some h6
    clear h2 h4 h6 hx1 e2 e3
    go_wp2_with fail
    refine (HP _ _ _ _ _ _ _ hR hE hd h3).mono ?_
    rintro en w6 ⟨k1, a1, b1, n1x, v1, rfl, n1, hR2, hK2⟩
    have hs6 := (((Kp.refl r w5)).trans hK2).size
    replace o := (o).kp hK2 (by omega)
    replace p := (p).kp hK2 (by omega)
    replace m1 := (m1).kp hK2 (by omega)
    replace hK := (hK).trans hK2
    replace hR := hR2
    clear hK2 hR2
    have n1i := KI.refl w5.heap.size w6.heap.size w6
    clear p0 p1 p2 p3 p4 pf
    go_wp2_with fail
    refine (HB _ _ _ _ _ _ _ hR hE hd h5).mono ?_
    rintro en w7 ⟨k2, a2, b2, n2x, v2, rfl, n2, hR2, hK2⟩
    have hs7 := (((Kp.refl r w6)).trans hK2).size
    replace o := (o).kp hK2 (by omega)
    replace p := (p).kp hK2 (by omega)
    replace m1 := (m1).kp hK2 (by omega)
    replace n1i := n1i.kp (by omega) (((Kp.refl r _)).trans hK2) (by omega)
    replace hK := (hK).trans hK2
    replace hR := hR2
    clear hK2 hR2
    have n2i := KI.refl w6.heap.size w7.heap.size w7
    have hA := (n1.q.imp (Q' := fun g => w5.heap.size ≤ g ∧ g < w6.heap.size) fun g g1 g2 => ⟨g2, g1⟩).on fun g hg cur ho => (n1i g hg.1 hg.2).trans ho
    have hC := n2.q.imp (Q' := fun g => w5.heap.size ≤ g ∧ w6.heap.size ≤ g) fun g _ g2 => ⟨by omega, g2⟩
    have hrow : Row (w7.alloc (.cells #[.int .u8 k1, .int .i64 a1, .string b1, .int .u64 n1x, v1, .int .u8 k2, .int .i64 a2, .string b2, .int .u64 n2x, v2] 25)) w5.heap.size _ [x1, x2] := RowQ.two w6.heap.size hA hC (by omega)
    clear n1i n2i n1 n2 hA hC
    replace hR := hR.alloc (.cells #[.int .u8 k1, .int .i64 a1, .string b1, .int .u64 n1x, v1, .int .u8 k2, .int .i64 a2, .string b2, .int .u64 n2x, v2] 25)
    replace hK := hK.alloc (.cells #[.int .u8 k1, .int .i64 a1, .string b1, .int .u64 n1x, v1, .int .u8 k2, .int .i64 a2, .string b2, .int .u64 n2x, v2] 25)
    replace o := o.alloc (.cells #[.int .u8 k1, .int .i64 a1, .string b1, .int .u64 n1x, v1, .int .u8 k2, .int .i64 a2, .string b2, .int .u64 n2x, v2] 25)
    replace m1 := m1.alloc (.cells #[.int .u8 k1, .int .i64 a1, .string b1, .int .u64 n1x, v1, .int .u8 k2, .int .i64 a2, .string b2, .int .u64 n2x, v2] 25)
    have hrowi := KI.refl w5.heap.size (w7.alloc (.cells #[.int .u8 k1, .int .i64 a1, .string b1, .int .u64 n1x, v1, .int .u8 k2, .int .i64 a2, .string b2, .int .u64 n2x, v2] 25)).heap.size (w7.alloc (.cells #[.int .u8 k1, .int .i64 a1, .string b1, .int .u64 n1x, v1, .int .u8 k2, .int .i64 a2, .string b2, .int .u64 n2x, v2] 25))
    have hsx : w7.heap.size < (w7.alloc (.cells #[.int .u8 k1, .int .i64 a1, .string b1, .int .u64 n1x, v1, .int .u8 k2, .int .i64 a2, .string b2, .int .u64 n2x, v2] 25)).heap.size := by rw [World.size_alloc]; omega
    go_upto_region 10 with (first | (refine wpList_put1u8 rfl (.tmp 27) _ rfl rfl w4.heap.size 0 rfl rfl m1 (by simp) ?_; intro wq0 m1q0 gq0) | (refine wpList_put1nodes rfl (.tmp 28) (.tmp 26) rfl rfl w4.heap.size 4 rfl rfl m1q0 (by simp) ?_; intro wq1 m1q1 gq1))
    have hs8 := gq0.size
    replace o := o.grown gq0 (some_ne (by omega))
    replace hrowi := hrowi.grown (by omega) gq0 (by omega)
    replace hR := hR.grown gq0 (some_lt (by omega))
    replace hK := hK.grown gq0 (some_le (by omega))
    have hs9 := gq1.size
    replace o := o.grown gq1 (some_ne (by omega))
    replace hrowi := hrowi.grown (by omega) gq1 (by omega)
    replace hR := hR.grown gq1 (some_lt (by omega))
    replace hK := hK.grown gq1 (some_le (by omega))
    replace m1 : Own wq1 w4.heap.size #[.int .u8 15, .int .i64 a, .string b, .int .u64 0, .slice (some ⟨w7.heap.size, 0, none⟩) 2 2] 25 := m1q1
    clear m1q0 m1q1 gq0 gq1
    generalize hw : wq1 = w9 at *
    clear hw
    obtain ⟨m10, m11, m12, m13, m14, m1f⟩ := m1.five
    go_wp2_with (refine wpList_put5 rfl (.tmp 4) (.tmp 41) rfl rfl w.heap.size rfl rfl (o) ⟨rfl, rfl, rfl, rfl, rfl⟩ ?_; intro wz oz gz)
    refine bodyPost_cell1 (t := 25) rfl rfl rfl oz Tryz.underlying25 rfl (by kernel_rfl) ?_
    exact ⟨_, _, _, _, _, rfl, ⟨rfl, ht.2.2.2.1, HLB.out, rfl, ((hrow.ki (hrowi.grown (by omega) gz (by omega)) (Nat.le_refl _)).mono (by omega))⟩, (hR).grown gz (some_lt (by omega)), (hK).grown gz (some_le (by omega))⟩
  | false =>
    rw [hx1, if_neg (by simp)] at h2
    rw [hx1] at e1
    clear hx1
    cases hx2 : (tk.2.1 == [102, 111, 114]) with
    | true =>
      rw [hx2, if_pos rfl] at h2
      rw [hx2] at e2
      obtain ⟨l, s2, h3, h4⟩ := bnd_some h2
      obtain ⟨rfl, rfl⟩ := ret_some h4
      clear h2 h4 hx2 e3
      go_wp2_with fail
      refine (HRo _ _ _ _ _ _ _ hR hE hd h3).mono ?_
      rintro en w6 ⟨v2, rfl, hrow, hR2, hK2⟩
      have hs6 := (((Kp.refl r w5)).trans hK2).size
      replace o := (o).kp hK2 (by omega)
      replace p := (p).kp hK2 (by omega)
      replace m1 := (m1).kp hK2 (by omega)
      replace hK := (hK).trans hK2
      replace hR := hR2
      clear hK2 hR2
      have hrowi := KI.refl w5.heap.size w6.heap.size w6
      obtain ⟨ao, cap, rfl⟩ := hrow.shape
      go_upto_region 10 with (first | (refine wpList_put1u8 rfl (.tmp 33) _ rfl rfl w4.heap.size 0 rfl rfl m1 (by simp) ?_; intro wq0 m1q0 gq0) | (refine wpList_put1nodes rfl (.tmp 34) (.tmp 32) rfl rfl w4.heap.size 4 rfl rfl m1q0 (by simp) ?_; intro wq1 m1q1 gq1))
      have hs7 := gq0.size
      replace o := o.grown gq0 (some_ne (by omega))
      replace p := p.grown gq0 (some_ne (by omega))
      replace hrowi := hrowi.grown (by omega) gq0 (by omega)
      replace hR := hR.grown gq0 (some_lt (by omega))
      replace hK := hK.grown gq0 (some_le (by omega))
      have hs8 := gq1.size
      replace o := o.grown gq1 (some_ne (by omega))
      replace p := p.grown gq1 (some_ne (by omega))
      replace hrowi := hrowi.grown (by omega) gq1 (by omega)
      replace hR := hR.grown gq1 (some_lt (by omega))
      replace hK := hK.grown gq1 (some_le (by omega))
      replace m1 : Own wq1 w4.heap.size #[.int .u8 16, .int .i64 a, .string b, .int .u64 0, .slice ao l.length cap] 25 := m1q1
      clear m1q0 m1q1 gq0 gq1
      generalize hw : wq1 = w8 at *
      clear hw
      obtain ⟨m10, m11, m12, m13, m14, m1f⟩ := m1.five
      go_wp2_with (refine wpList_put5 rfl (.tmp 4) (.tmp 41) rfl rfl w.heap.size rfl rfl (o) ⟨rfl, rfl, rfl, rfl, rfl⟩ ?_; intro wz oz gz)
      refine bodyPost_cell1 (t := 25) rfl rfl rfl oz Tryz.underlying25 rfl (by kernel_rfl) ?_
      exact ⟨_, _, _, _, _, rfl, ⟨rfl, ht.2.2.2.1, HLB.out, rfl, ((hrow.ki (hrowi.grown (by omega) gz (by omega)) (Nat.le_refl _)).mono (by omega))⟩, (hR).grown gz (some_lt (by omega)), (hK).grown gz (some_le (by omega))⟩
    | false =>
      rw [hx2, if_neg (by simp)] at h2
      rw [hx2] at e2
      clear hx2
      cases hx3 : (tk.2.1 == [115, 119, 105, 116, 99, 104]) with
      | true =>
        rw [hx3, if_pos rfl] at h2
        rw [hx3] at e3
        obtain ⟨l, s2, h3, h4⟩ := bnd_some h2
        obtain ⟨rfl, rfl⟩ := ret_some h4
        clear h2 h4 hx3
        go_wp2_with fail
        refine (HCh _ _ _ _ _ _ _ hR hE hd h3).mono ?_
        rintro en w6 ⟨v2, rfl, hrow, hR2, hK2⟩
        have hs6 := (((Kp.refl r w5)).trans hK2).size
        replace o := (o).kp hK2 (by omega)
        replace p := (p).kp hK2 (by omega)
        replace m1 := (m1).kp hK2 (by omega)
        replace hK := (hK).trans hK2
        replace hR := hR2
        clear hK2 hR2
        have hrowi := KI.refl w5.heap.size w6.heap.size w6
        obtain ⟨ao, cap, rfl⟩ := hrow.shape
        go_upto_region 10 with (first | (refine wpList_put1u8 rfl (.tmp 39) _ rfl rfl w4.heap.size 0 rfl rfl m1 (by simp) ?_; intro wq0 m1q0 gq0) | (refine wpList_put1nodes rfl (.tmp 40) (.tmp 38) rfl rfl w4.heap.size 4 rfl rfl m1q0 (by simp) ?_; intro wq1 m1q1 gq1))
        have hs7 := gq0.size
        replace o := o.grown gq0 (some_ne (by omega))
        replace p := p.grown gq0 (some_ne (by omega))
        replace hrowi := hrowi.grown (by omega) gq0 (by omega)
        replace hR := hR.grown gq0 (some_lt (by omega))
        replace hK := hK.grown gq0 (some_le (by omega))
        have hs8 := gq1.size
        replace o := o.grown gq1 (some_ne (by omega))
        replace p := p.grown gq1 (some_ne (by omega))
        replace hrowi := hrowi.grown (by omega) gq1 (by omega)
        replace hR := hR.grown gq1 (some_lt (by omega))
        replace hK := hK.grown gq1 (some_le (by omega))
        replace m1 : Own wq1 w4.heap.size #[.int .u8 17, .int .i64 a, .string b, .int .u64 0, .slice ao l.length cap] 25 := m1q1
        clear m1q0 m1q1 gq0 gq1
        generalize hw : wq1 = w8 at *
        clear hw
        obtain ⟨m10, m11, m12, m13, m14, m1f⟩ := m1.five
        go_wp2_with (refine wpList_put5 rfl (.tmp 4) (.tmp 41) rfl rfl w.heap.size rfl rfl (o) ⟨rfl, rfl, rfl, rfl, rfl⟩ ?_; intro wz oz gz)
        refine bodyPost_cell1 (t := 25) rfl rfl rfl oz Tryz.underlying25 rfl (by kernel_rfl) ?_
        exact ⟨_, _, _, _, _, rfl, ⟨rfl, ht.2.2.2.1, HLB.out, rfl, ((hrow.ki (hrowi.grown (by omega) gz (by omega)) (Nat.le_refl _)).mono (by omega))⟩, (hR).grown gz (some_lt (by omega)), (hK).grown gz (some_le (by omega))⟩
      | false =>
        rw [hx3, if_neg (by simp)] at h2
        rw [hx3] at e3
        clear hx3
        obtain ⟨rfl, rfl⟩ := ret_some h2
        obtain ⟨m10, m11, m12, m13, m14, m1f⟩ := m1.five
        go_wp2_with (refine wpList_put5 rfl (.tmp 4) (.tmp 41) rfl rfl w.heap.size rfl rfl (o) ⟨rfl, rfl, rfl, rfl, rfl⟩ ?_; intro wz oz gz)
        refine bodyPost_cell1 (t := 25) rfl rfl rfl oz Tryz.underlying25 rfl (by kernel_rfl) ?_
        exact ⟨_, _, _, _, _, rfl, ⟨rfl, ht.2.2.2.1, HLB.out, rfl, Row.nil _ _⟩, (hR).grown gz (some_lt (by omega)), (hK).grown gz (some_le (by omega))⟩
theorem pdo_as (w : World) (n : Tree) (B : Nat) (k a : Int) (b : ByteArray) (nn : Int) (v : Value) (hBw : B ≤ w.heap.size) (hN : NodeIs w B n k a b nn v) :
    Calls Tryz.prog 137 #[.agg #[.int .u8 k, .int .i64 a, .string b, .int .u64 nn, v]] w fun en w' => ∃ k' a' b' n' v', en = .returned (.agg #[.int .u8 k', .int .i64 a', .string b', .int .u64 n', v']) ∧ NodeIs w' B (doP n) k' a' b' n' v' ∧ Below w.heap.size w w' := by
  obtain ⟨ao, cap, rfl⟩ := hN.q.shape
  go_enter Tryz.func137, Tryz.ntmps137
  go_upto_region 1 with fail
  have m := (Own.new w #[.int .u8 k, .int .i64 a, .string b, .int .u64 nn, .slice ao n.kids.length cap] 25).alloc (.cells #[.int .u8 0, .int .i64 0, .string ⟨#[]⟩, .int .u64 0, .slice none 0 0] 25)
  have o := Own.new (w.alloc (.cells #[.int .u8 k, .int .i64 a, .string b, .int .u64 nn, .slice ao n.kids.length cap] 25)) #[.int .u8 0, .int .i64 0, .string ⟨#[]⟩, .int .u64 0, .slice none 0 0] 25
  rw [World.size_alloc] at o
  have hb : Below w.heap.size w ((w.alloc (.cells #[.int .u8 k, .int .i64 a, .string b, .int .u64 nn, .slice ao n.kids.length cap] 25)).alloc (.cells #[.int .u8 0, .int .i64 0, .string ⟨#[]⟩, .int .u64 0, .slice none 0 0] 25)) := ((Below.refl _ w).alloc (Nat.le_refl _) _).alloc (by rw [World.size_alloc]; omega) _
  have nq : NodeQ ((w.alloc (.cells #[.int .u8 k, .int .i64 a, .string b, .int .u64 nn, .slice ao n.kids.length cap] 25)).alloc (.cells #[.int .u8 0, .int .i64 0, .string ⟨#[]⟩, .int .u64 0, .slice none 0 0] 25)) (fun g => B ≤ g ∧ g ≠ w.heap.size + 1) n k a b nn (.slice ao n.kids.length cap) := (hN.q.imp fun g h1 h2 => ⟨h2, by omega⟩).on fun g hg cur ho => (ho.alloc _).alloc _
  have hsz : w.heap.size + 1 < ((w.alloc (.cells #[.int .u8 k, .int .i64 a, .string b, .int .u64 nn, .slice ao n.kids.length cap] 25)).alloc (.cells #[.int .u8 0, .int .i64 0, .string ⟨#[]⟩, .int .u64 0, .slice none 0 0] 25)).heap.size := by rw [World.size_alloc, World.size_alloc]; omega
  generalize hw : (w.alloc (.cells #[.int .u8 k, .int .i64 a, .string b, .int .u64 nn, .slice ao n.kids.length cap] 25)).alloc (.cells #[.int .u8 0, .int .i64 0, .string ⟨#[]⟩, .int .u64 0, .slice none 0 0] 25) = w1 at m o hb nq hsz ⊢
  clear hw
  have ha := hN.2.1
  have hrow := RowQ.one nq (show B ≤ w1.heap.size ∧ w1.heap.size ≠ w.heap.size + 1 from ⟨by omega, by omega⟩)
  have HA : Hid (a = n.at_) := ha
  clear ha hN
  obtain ⟨m0, m1, m2, m3, m4, mf⟩ := m.five
  go_wp2_with (refine wpList_put5 rfl (.tmp 2) (.tmp 7) rfl rfl (w.heap.size + 1) rfl rfl (o.alloc _) ⟨rfl, rfl, rfl, rfl, rfl⟩ ?_; intro wz oz gz)
  refine bodyPost_cell1 (t := 25) rfl rfl rfl oz Tryz.underlying25 rfl (by kernel_rfl) ?_
  have hrow' := (hrow.on fun g hg cur ho => ho.grown gz (some_ne hg.2)).imp (Q' := fun g => B ≤ g) fun g _ h => h.1
  exact ⟨_, _, _, _, _, rfl, ⟨rfl, HA.out, rfl, rfl, hrow'⟩, (hb.alloc (by omega) _).grown gz (by rw [World.size_alloc]; omega) (fun j e => by have := Option.some.inj e; omega)⟩
theorem run_appN2 (W : World) (ty : TypeId) (B : Nat) (v : Value) (ts : List Tree) (W0 : World) (hrow0 : Row W0 B v ts) (hkeep : ∀ (g : Nat) (cur : Array Value), B ≤ g → Own W0 g cur 25 → Own W g cur 25) (us : List Tree) (m c : Nat) (hm : us.length = m)
    (b : Nat) (cs : Array Value) (hb : Own W b cs 25) (hcs : ∃ F, Cells W us (cs.toList.take (m * 5)) F ∧ F.Nodup ∧ (∀ g ∈ F, W0.heap.size ≤ g))
    (h63 : ts.length + m ≤ 1000000000) (hbase : B ≤ W0.heap.size) (hsz : W0.heap.size ≤ W.heap.size) :
    ∃ v' w', (Builtin.append_ #[23, 23] ty #[v, .slice (some ⟨b, 0, none⟩) m c]).run Tryz.prog W = .ok v' w' ∧ Row w' B v' (ts ++ us) ∧ W.grownBy w' v.ownBlock ∧ (∀ k, v.ownBlock = some k → B ≤ k ∧ k < W0.heap.size) ∧ (v'.ownBlock = v.ownBlock ∨ v'.ownBlock = some W.heap.size) := by
  obtain ⟨i8, hi, hz0, hz1, hz2⟩ := info_parts infoN
  obtain ⟨xs, F1, hown0, hc0, hn, hF, hne⟩ := hrow0.own
  obtain ⟨F, k1, k2, k3⟩ := hcs
  have hlt0 := Cells.lt _ _ _ hc0
  have hc : Cells W ts xs F1 := Cells.on _ _ _ hc0 fun g hg cur ho => hkeep g cur (hF g hg) ho
  have hown : W.ownsRow B 25 5 v ts.length xs := by
    refine ⟨hown0.1, ?_⟩
    rcases hown0.2 with q | ⟨g, cap, cur, rfl, hg, ho, r⟩
    · exact .inl q
    · exact .inr ⟨g, cap, cur, rfl, hg, hkeep g cur hg ho, r⟩
  have k4 : ∀ g ∈ F, some g ≠ v.ownBlock := fun g hg e => by have := (hown0.lt g e.symm).2; have := k3 g hg; omega
  have hA : ∀ j u, (cs.toList.take (m * 5))[j]? = some u → W.cell? ((⟨b, 0, none⟩ : Addr).add j) = some u := by
    intro j u hu
    rw [List.getElem?_take] at hu
    have hj : j < m * 5 := by
      refine Classical.byContradiction fun q => ?_
      rw [if_neg q] at hu; cases hu
    rw [if_pos hj] at hu
    have hadd : (⟨b, 0, none⟩ : Addr).add j = ⟨b, j, none⟩ := by unfold Addr.add; split <;> simp_all
    rw [hadd, cell_of_row _ b j _ 25 _ hb]
    simpa using hu
  have hB : ∀ u ∈ cs.toList.take (m * 5), u.oneCell' = true := by
    have : ∀ (us : List Tree) (ys : List Value) (F : List Nat), Cells W us ys F → ∀ u ∈ ys, u.oneCell' = true := by
      intro us
      induction us with
      | nil => intro ys F h u hu; rw [cells_nil] at h; rw [h.1] at hu; cases hu
      | cons t ts ih =>
        intro ys F h u hu
        obtain ⟨k, a, tx, n, ks⟩ := t
        rw [cells_cons] at h
        obtain ⟨v, xs, rest, F0, F1, F2, rfl, rfl, h1, h2, h3⟩ := h
        simp only [List.mem_cons] at hu
        rcases hu with rfl | rfl | rfl | rfl | rfl | hu
        · rfl
        · rfl
        · rfl
        · rfl
        · rcases h1.2 with ⟨rfl, _, _⟩ | ⟨g, cap, cur, rfl, _⟩ <;> rfl
        · exact ih rest F2 h3 u hu
    exact this _ _ _ k1
  obtain ⟨v', w', hr, h1, h2, _, h4⟩ := run_append_own_at (P := Tryz.prog) W B 23 ty 25 i8 _ 5 64 Tryz.underlying23 hi hz0 hz1 hz2 rfl (by omega) v ts.length xs hown ⟨b, 0, none⟩ m c (cs.toList.take (m * 5)) (by rw [Cells.length _ _ _ k1, hm]) hA hB (by unfold maxLen; omega) (by omega) (Nat.le_trans hbase hsz)
  have e : ts.length + m = (ts ++ us).length := by rw [List.length_append, hm]
  rw [e] at h1
  have hk : ∀ g, g < W.heap.size → some g ≠ v.ownBlock → ∀ cur, Own W g cur 25 → Own w' g cur 25 := fun g hg hne cur ho => (h2.block g hg hne).trans ho
  have hlt1 := Cells.lt _ _ _ hc
  have hlt2 := Cells.lt _ _ _ k1
  refine ⟨v', w', hr, own_row h1 (Cells.append _ _ _ (Cells.on _ _ _ hc fun g hg => hk g (hlt1 g hg) (hne g hg)) _ _ _ (Cells.on _ _ _ k1 fun g hg => hk g (hlt2 g hg) (k4 g hg))) (nodup_apart hn k2 hlt0 k3) ?_ ?_, h2, fun k hk => hown0.lt k hk, h4⟩
  · intro g hg
    rcases List.mem_append.1 hg with hg | hg
    · exact hF g hg
    · exact Nat.le_trans hbase (k3 g hg)
  · intro g hg e'
    have hcases : some g ≠ v.ownBlock ∧ g < W.heap.size := by
      rcases List.mem_append.1 hg with hg | hg
      · exact ⟨hne g hg, hlt1 g hg⟩
      · exact ⟨k4 g hg, hlt2 g hg⟩
    rcases h4 with h4 | h4
    · exact hcases.1 (e'.trans h4)
    · rw [h4] at e'
      have := Option.some.inj e'
      omega
theorem wpList_appN2 {W : World} {ops : Array Oper} {rest : List Oper} {o : Oper} {a : Act} {Q : Exit → Act → World → Prop} (hgd : o.guard = none) (s x : Operand)
    (ho : o.op = .call { callee := .builtin .append, args := #[s, x], argTypes := #[23, 23] })
    (B : Nat) (v : Value) (ts : List Tree) (hs : a.eval s = v) (W0 : World) (hrow0 : Row W0 B v ts) (hkeep : ∀ (g : Nat) (cur : Array Value), B ≤ g → Own W0 g cur 25 → Own W g cur 25) (us : List Tree) (m c : Nat) (hm : us.length = m)
    (b : Nat) (hx : a.eval x = .slice (some ⟨b, 0, none⟩) m c) (cs : Array Value) (hb : Own W b cs 25) (hcs : ∃ F, Cells W us (cs.toList.take (m * 5)) F ∧ F.Nodup ∧ (∀ g ∈ F, W0.heap.size ≤ g))
    (h63 : ts.length + m ≤ 1000000000) (hbase : B ≤ W0.heap.size) (hsz : W0.heap.size ≤ W.heap.size)
    (h : ∀ v' w', Row w' B v' (ts ++ us) → W.grownBy w' v.ownBlock → (∀ k, v.ownBlock = some k → B ≤ k ∧ k < W0.heap.size) → (v'.ownBlock = v.ownBlock ∨ v'.ownBlock = some W.heap.size) → wpList Tryz.prog ops Q rest (a.put o.dst v') w') :
    wpList Tryz.prog ops Q (o :: rest) a W := by
  refine wpList_plain hgd fun K hK => ?_
  obtain ⟨v', w', hr, h2, h3, h4, h5⟩ := run_appN2 W o.type B v ts W0 hrow0 hkeep us m c hm b cs hb hcs h63 hbase hsz
  unfold Oper.wp execOp
  simp only [ho, resolve, invoke, builtin, Sem.run_bind, Sem.run_pure, Result.andThen_ok, List.map_toArray, List.map_cons, List.map_nil, hs, hx, hr]
  exact hK _ _ (h v' w' h2 h3 h4 h5)
end Go.Proofs.YtmhnbklchnnbaaaGreatDoor
