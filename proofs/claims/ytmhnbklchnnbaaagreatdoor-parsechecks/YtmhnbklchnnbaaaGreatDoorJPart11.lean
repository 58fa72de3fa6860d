import Derived.Test.YtmhnbklchnnbaaaGreatDoorJStmt7
set_option maxHeartbeats 4000000
set_option maxRecDepth 100000
namespace Go.Proofs.YtmhnbklchnnbaaaGreatDoor
open Go.RowKit
set_option linter.unusedVariables false
def AccRel (w : World) (r E d : Nat) (m : Nat → List Tree → P (List Tree)) (l : List Tree) (s' : St) (B g0 g1 : Nat) (kd a : Int) (tx : ByteArray) (g : Nat) (wr : World) : Prop :=
  ∃ (acc : List Tree) (sl : St) (ao : Option Addr) (cap : Nat), m g acc E d sl = some (l, s') ∧ RdAt wr r E d sl ∧ Own wr g1 #[.int .u8 kd, .int .i64 a, .string tx, .int .u64 0, .slice ao acc.length cap] 25 ∧ Own wr g0 #[.int .u8 0, .int .i64 0, .string ⟨#[]⟩, .int .u64 0, .slice none 0 0] 25 ∧ Row wr B (.slice ao acc.length cap) acc ∧ Kp r w wr ∧ B ≤ wr.heap.size ∧ acc.length + g ≤ 900000000
def ProgRel (w : World) (r E d : Nat) (m : Nat → List Tree → P Tree) (t : Tree) (s' : St) (B g0 g1 : Nat) (g : Nat) (wr : World) : Prop :=
  ∃ (acc : List Tree) (sl : St) (ao : Option Addr) (cap : Nat), m g acc E d sl = some (t, s') ∧ RdAt wr r E d sl ∧ Own wr g1 #[.int .u8 1, .int .i64 0, .string ⟨#[]⟩, .int .u64 0, .slice ao acc.length cap] 25 ∧ Own wr g0 #[.int .u8 0, .int .i64 0, .string ⟨#[]⟩, .int .u64 0, .slice none 0 0] 25 ∧ Row wr B (.slice ao acc.length cap) acc ∧ Kp r w wr ∧ B ≤ wr.heap.size ∧ acc.length + g ≤ 900000000
theorem precord_as {typ : P Tree} {c : Nat} (f : Nat) (hf : f ≤ 100000000) (HF : PartAs 65 (fieldP typ) c) : PartAs 50 (recordP f typ) (c + 1) := by
  intro w r E d s t s' hR hE hd hm
  have hrl := hR.lt
  have hK := Kp.refl r w
  obtain ⟨tk0, s0, h1, h2⟩ := bnd_some hm
  obtain ⟨rfl, rfl⟩ := take_some h1
  obtain ⟨tk, s1, h3, h4⟩ := bnd_some h2
  obtain ⟨y, s2, h5, h6⟩ := bnd_some h4
  obtain ⟨rfl, rfl⟩ := ret_some h6
  obtain ⟨tk2, s3, h7, h8⟩ := bnd_some h5
  obtain ⟨l, s4, h9, h10⟩ := bnd_some h8
  obtain ⟨tk3, s5, h11, h12⟩ := bnd_some h10
  obtain ⟨rfl, rfl⟩ := ret_some h12
  unfold deeper at h9
  obtain ⟨k0, tx0, nn0, a0, e0, ht0⟩ := tokIs (nxt E s)
  obtain ⟨q, hq⟩ : ∃ q, nm (nxt E (popS s)) = q := ⟨_, rfl⟩
  have hn : needT q E d (popS s) = some (tk, s1) := by rw [← hq]; exact h3
  obtain ⟨k, tx, nn, a, e, ht⟩ := tokIs tk
  obtain ⟨k', tx', nn', a', e', ht'⟩ := tokIs tk2
  clear hm h1 h2 h3 h4 h5 h6 h8 h10 h12
  go_enter Tryz.func50, Tryz.ntmps50
  go_upto_region 1 with fail
  have hzo := hR.lt
  have hko := hK.size
  have o := Own.new w #[.int .u8 0, .int .i64 0, .string ⟨#[]⟩, .int .u64 0, .slice none 0 0] 25
  replace hR := hR.alloc (.cells #[.int .u8 0, .int .i64 0, .string ⟨#[]⟩, .int .u64 0, .slice none 0 0] 25)
  replace hK := hK.alloc (.cells #[.int .u8 0, .int .i64 0, .string ⟨#[]⟩, .int .u64 0, .slice none 0 0] 25)
  generalize hw : w.alloc (.cells #[.int .u8 0, .int .i64 0, .string ⟨#[]⟩, .int .u64 0, .slice none 0 0] 25) = w1 at hR hK o ⊢
  clear hw
  have hs1 := o.lt
  go_wp2_with fail
  refine (ptake_as hR hE ht0).mono ?_
  rintro en w2 ⟨rfl, hR2, hK2⟩
  have hs2 := (((Kp.refl r w1)).trans hK2).size
  replace o := (o).kp hK2 (by omega)
  replace hK := (hK).trans hK2
  replace hR := hR2
  clear hK2 hR2
  go_wp2_with fail
  refine (pname_as hR hE q hq).mono ?_
  rintro en w3 ⟨rfl, hR2, hb⟩
  have hs3 := (((Kp.refl r w2)).trans (Kp.of hb)).size
  replace o := (o).below hb
  replace hK := (hK).trans (Kp.of hb)
  replace hR := hR2
  clear hb hR2
  go_wp2_with fail
  refine (pneed_as hR hE q hn ht).mono ?_
  rintro en w4 ⟨rfl, hR2, hK2⟩
  have hs4 := (((Kp.refl r w3)).trans hK2).size
  replace o := (o).kp hK2 (by omega)
  replace hK := (hK).trans hK2
  replace hR := hR2
  clear hK2 hR2
  clear hq hn
  go_upto_region 3 with fail
  have hzp := hR.lt
  have hkp := hK.size
  have p := Own.new w4 #[.int .u8 k, .string tx, .int .u64 nn, .int .i64 a, .int .i64 e] 77
  replace hR := hR.alloc (.cells #[.int .u8 k, .string tx, .int .u64 nn, .int .i64 a, .int .i64 e] 77)
  replace hK := hK.alloc (.cells #[.int .u8 k, .string tx, .int .u64 nn, .int .i64 a, .int .i64 e] 77)
  replace o := o.alloc (.cells #[.int .u8 k, .string tx, .int .u64 nn, .int .i64 a, .int .i64 e] 77)
  generalize hw : w4.alloc (.cells #[.int .u8 k, .string tx, .int .u64 nn, .int .i64 a, .int .i64 e] 77) = w5 at hR hK p o ⊢
  clear hw
  have hs5 := p.lt
  obtain ⟨p0, p1, p2, p3, p4, pf⟩ := p.five
  go_upto_region 4 with fail
  have hzn := hR.lt
  have hkn := hK.size
  have n := Own.new w5 #[.int .u8 2, .int .i64 a, .string tx, .int .u64 0, .slice none 0 0] 25
  replace hR := hR.alloc (.cells #[.int .u8 2, .int .i64 a, .string tx, .int .u64 0, .slice none 0 0] 25)
  replace hK := hK.alloc (.cells #[.int .u8 2, .int .i64 a, .string tx, .int .u64 0, .slice none 0 0] 25)
  replace o := o.alloc (.cells #[.int .u8 2, .int .i64 a, .string tx, .int .u64 0, .slice none 0 0] 25)
  replace p := p.alloc (.cells #[.int .u8 2, .int .i64 a, .string tx, .int .u64 0, .slice none 0 0] 25)
  generalize hw : w5.alloc (.cells #[.int .u8 2, .int .i64 a, .string tx, .int .u64 0, .slice none 0 0] 25) = w6 at hR hK n o p ⊢
  clear hw
  have hs6 := n.lt
  clear p0 p1 p2 p3 p4 pf
  go_wp2_with fail
  refine (popen_as hR hE (by omega) ⟨#[123]⟩ h7 ht').mono ?_
  rintro en w7 ⟨rfl, hR2, hK2⟩
  have hs7 := (((Kp.refl r w6)).trans hK2).size
  replace o := (o).kp hK2 (by omega)
  replace n := (n).kp hK2 (by omega)
  replace hK := (hK).trans hK2
  replace hR := hR2
  clear hK2 hR2
  clear h7 p
  go_wp2_with fail
  have hrow : Row w7 w7.heap.size (.slice none 0 0) [] := Row.nil _ _
  have hB0 := Nat.le_refl w7.heap.size
  go_loopg [] f (fun g wr => AccRel w r E (d + 1) (fieldsL typ) l s4 w7.heap.size w.heap.size w5.heap.size 2 a tx g wr)
  case atStart => exact ⟨[], _, none, 0, h9, hR, n, o, hrow, hK, hB0, by simp; omega⟩
  case round =>
    clear hR hK hrow n o h9 hB0
    obtain ⟨acc, sl, ao, cap, hm, hR, n, o, hrow, hK, hB, hlen⟩ := hrel
    cases gk with
    | zero => cases hm
    | succ gk =>
      have hw0 := hK.size
      have hkn := hR.lt
      have hrowi := KI.refl w7.heap.size wr.heap.size wr
      unfold fieldsL at hm
      replace hm := look_some hm
      obtain ⟨q, hq⟩ : ∃ q, nm (nxt E sl) = q := ⟨_, rfl⟩
      rw [hq] at hm
      go_wp2_with fail
      refine (pname_as hR hE q hq).mono ?_
      rintro en w8 ⟨rfl, hR2, hb⟩
      have hs8 := (((Kp.refl r wr)).trans (Kp.of hb)).size
      replace o := (o).below hb
      replace n := (n).below hb
      replace hrowi := hrowi.kp (by omega) (((Kp.refl r _)).trans (Kp.of hb)) (by omega)
      replace hK := (hK).trans (Kp.of hb)
      replace hR := hR2
      clear hb hR2
      clear hq
      cases q with
      | false =>
        rw [if_neg (by simp)] at hm
        obtain ⟨rfl, rfl⟩ := ret_some hm
        go_wp2_with fail
        refine (pshut_as hR hE (by omega) ⟨#[125]⟩ h11).mono ?_
        rintro en w9 ⟨⟨_, rfl⟩, hR2, hK2⟩
        have hs9 := (((Kp.refl r w8)).trans hK2).size
        replace o := (o).kp hK2 (by omega)
        replace n := (n).kp hK2 (by omega)
        replace hrowi := hrowi.kp (by omega) (((Kp.refl r _)).trans hK2) (by omega)
        replace hK := (hK).trans hK2
        replace hR := hR2
        clear hK2 hR2
        obtain ⟨n0, n1, n2, n3, n4, nf⟩ := n.five
        go_wp2_with (refine wpList_put5 rfl (.tmp 2) (.tmp 42) rfl rfl w.heap.size rfl rfl (o) ⟨rfl, rfl, rfl, rfl, rfl⟩ ?_; intro wz oz gz)
        refine bodyPost_cell1 (t := 25) rfl rfl rfl oz Tryz.underlying25 rfl (by kernel_rfl) ?_
        exact ⟨_, _, _, _, _, rfl, ⟨rfl, ht.2.2.2.1, ht.2.1, rfl, ((hrow.ki (hrowi.grown (by omega) gz (by omega)) (Nat.le_refl _)).mono (by omega))⟩, (hR).grown gz (some_lt (by omega)), (hK).grown gz (some_le (by omega))⟩
      | true =>
        rw [if_pos rfl] at hm
        obtain ⟨t1, s7, h13, h14⟩ := bnd_some hm
        obtain ⟨tk4, s8, h15, h16⟩ := bnd_some h14
        obtain ⟨q, hq⟩ : ∃ q, isT 4 [⟨#[59]⟩] (nxt E s7) = q := ⟨_, rfl⟩
        have hq2 : sg [59] (nxt E s7) = q := (isT_sg _ _).symm.trans hq
        have hn4 : needT q E (d + 1) s7 = some (tk4, s8) := by rw [← hq2]; exact h15
        obtain ⟨k4, tx4, nn4, a4, e4, ht4⟩ := tokIs tk4
        clear hm h14 h15 hq2
        have hnb := n.lt
        obtain ⟨n0, n1, n2, n3, n4, nf⟩ := n.five
        have hrow2 := hrow.q_ki (x := w5.heap.size) hrowi (Nat.le_refl _) (by omega)
        go_wp2_with fail
        have hfx := fn_field
        go_region_law (first | (refine step_call1 (by rfl) 65 (.tmp 28) 58 (by rfl) hfx _ (by rfl) (HF _ r E (d + 1) _ t1 s7 hR.drew hE (by omega) h13) ?_; rintro en wa7 ⟨k1, a1, b1, n1x, v1, rfl, hN, hR7, hK7⟩; refine ⟨_, rfl, ?_⟩; have n7 := n.drew.kp hK7 (by omega); obtain ⟨m0, m1, m2, m3, m4, mf⟩ := n7.five; have hs7 := hK7.size; rw [World.size_drew] at hs7; have hl7 := n7.lt) | (refine step_appQ (by rfl) (.tmp 27) (.tmp 30) (by rfl) (fun g => w7.heap.size ≤ g ∧ g ≠ w5.heap.size) _ acc (by rfl) _ (hrow2.on fun g hg cur ho => ho.drew) (fun g cur hg ho => ho.kp (hK7.alloc _) (by omega)) t1 k1 a1 b1 n1x v1 wa7.heap.size (by rfl) (Own.new wa7 _ _) ((hN.q.imp fun g g1 g2 => ⟨g2, by rw [World.size_drew] at g2; exact ⟨by omega, by omega⟩⟩).on fun g hg cur ho => ho.alloc _) (by simp; omega) (by rw [World.size_drew, World.size_alloc]; omega) (by rw [World.size_alloc]; exact ⟨by omega, by omega⟩) ?_; intro ao8 cap8 wa8 hrow8 gz8 hvb8; rw [World.size_drew] at hvb8; have n8 := (n7.alloc _).grown gz8 (fun e => (hvb8 _ e.symm).1.2 rfl); obtain ⟨p0, p1, p2, p3, p4, pf⟩ := n8.five))
        all_goals
          have hll9 : (acc ++ [t1]).length = acc.length + 1 := by simp
          rw [hll9] at hrow8
          have hR9 := ((hR7.alloc (.cells #[.int .u8 k1, .int .i64 a1, .string b1, .int .u64 n1x, v1] 25)).grown gz8 (fun k hk => by have := (hvb8 k hk).1; omega)).set (i := 4) (g := w5.heap.size) (by omega) (.slice ao8 (acc.length + 1) cap8)
          have hK9 := (((hK.drew.trans (hK7.alloc (.cells #[.int .u8 k1, .int .i64 a1, .string b1, .int .u64 n1x, v1] 25))).grown gz8 (fun k hk => by have := (hvb8 k hk).1; omega)).set (g := w5.heap.size) (.inl (by omega)) 4 (.slice ao8 (acc.length + 1) cap8))
          have o9 := (((o.drew.kp hK7 (by omega)).alloc (.cells #[.int .u8 k1, .int .i64 a1, .string b1, .int .u64 n1x, v1] 25)).grown gz8 (fun e => by have := (hvb8 _ e.symm).1; omega)).other (g' := w5.heap.size) (i := 4) (by omega) (.slice ao8 (acc.length + 1) cap8)
          have n9 := n8.set 4 (.slice ao8 (acc.length + 1) cap8)
          have hrow9 : Row _ w7.heap.size _ _ := RowQ.row ((hrow8.on fun g hg cur ho => ho.other (g' := w5.heap.size) (i := 4) hg.2 (.slice ao8 (acc.length + 1) cap8)).imp fun g _ h => h.1)
          have hs8 := gz8.size
          rw [World.size_alloc] at hs8
          have hs9 : wa7.heap.size < (wa8.setCell ⟨w5.heap.size, 4, none⟩ (.slice ao8 (acc.length + 1) cap8)).heap.size := by rw [World.size_setCell]; omega
          generalize hw : wa8.setCell ⟨w5.heap.size, 4, none⟩ (.slice ao8 (acc.length + 1) cap8) = wa9 at hR9 hK9 hrow9 hs9 n9 o9 ⊢
          clear hw hrow8 gz8 hvb8 n8 p0 p1 p2 p3 p4 pf hN hR7 hK7 n7 m0 m1 m2 m3 m4 mf hrow2 n0 n1 n2 n3 n4 nf
          replace hR := hR9
          replace hK := hK9
          clear hR9 hK9
          replace o := o9
          clear o9
          replace n : Own wa9 w5.heap.size #[.int .u8 2, .int .i64 a, .string tx, .int .u64 0, .slice ao8 (acc.length + 1) cap8] 25 := n9
          clear n9
          clear hrow hrowi
          have hrow := hrow9
          clear hrow9
          have hrowi := KI.refl w7.heap.size wa9.heap.size wa9
          go_wp2_with fail
          refine (psign_as (hR.alloc _) hE (xs := [⟨#[59]⟩]) (Own.new wa9 _ _) 1 rfl (by omega) q hq).mono ?_
          rintro en w9 ⟨rfl, hR2, hb⟩
          have hs9 := (((Kp.refl r wa9).alloc _).trans (Kp.of hb)).size
          replace o := (o.alloc _).below hb
          replace n := (n.alloc _).below hb
          replace hrowi := hrowi.kp (by omega) (((Kp.refl r _).alloc _).trans (Kp.of hb)) (by omega)
          replace hK := (hK.alloc _).trans (Kp.of hb)
          replace hR := hR2
          clear hb hR2
          go_wp2_with fail
          refine (pneed_as hR hE q hn4 ht4).mono ?_
          rintro en w10 ⟨rfl, hR2, hK2⟩
          have hs10 := (((Kp.refl r w9)).trans hK2).size
          replace o := (o).kp hK2 (by omega)
          replace n := (n).kp hK2 (by omega)
          replace hrowi := hrowi.kp (by omega) (((Kp.refl r _)).trans hK2) (by omega)
          replace hK := (hK).trans hK2
          replace hR := hR2
          clear hK2 hR2
          clear hq hn4
          have hrow9 := hrow.ki hrowi (Nat.le_refl _)
          have hll : (acc ++ [t1]).length = acc.length + 1 := by simp
          go_wp2
          go_roundg gk
          case rel => exact ⟨acc ++ [t1], s8, ao8, cap8, h16, hR, by rw [hll]; exact n, o, by rw [hll]; exact hrow9, hK, by omega, by rw [hll]; omega⟩
          case measure => omega
theorem pprogram_as {typ : P Tree} {stmts : P (List Tree)} {c g0 : Nat} (f : Nat) (hf : f ≤ 100000000) (HRe : PartAs 50 (recordP g0 typ) c) (HFu : PartAs 51 (functionP g0 typ stmts) c) : PartAs 36 (programL g0 typ stmts f []) c := by
  intro w r E d s t s' hR hE hd hm
  have hrl := hR.lt
  have hK := Kp.refl r w
  go_enter Tryz.func36, Tryz.ntmps36
  go_upto_region 1 with fail
  have hzo := hR.lt
  have hko := hK.size
  have o := Own.new w #[.int .u8 0, .int .i64 0, .string ⟨#[]⟩, .int .u64 0, .slice none 0 0] 25
  replace hR := hR.alloc (.cells #[.int .u8 0, .int .i64 0, .string ⟨#[]⟩, .int .u64 0, .slice none 0 0] 25)
  replace hK := hK.alloc (.cells #[.int .u8 0, .int .i64 0, .string ⟨#[]⟩, .int .u64 0, .slice none 0 0] 25)
  generalize hw : w.alloc (.cells #[.int .u8 0, .int .i64 0, .string ⟨#[]⟩, .int .u64 0, .slice none 0 0] 25) = w1 at hR hK o ⊢
  clear hw
  have hs1 := o.lt
  go_wp2_with fail
  have n := Own.new w1 #[.int .u8 1, .int .i64 0, .string ⟨#[]⟩, .int .u64 0, .slice none 0 0] 25
  replace hR := hR.alloc (.cells #[.int .u8 1, .int .i64 0, .string ⟨#[]⟩, .int .u64 0, .slice none 0 0] 25)
  replace hK := hK.alloc (.cells #[.int .u8 1, .int .i64 0, .string ⟨#[]⟩, .int .u64 0, .slice none 0 0] 25)
  replace o := o.alloc (.cells #[.int .u8 1, .int .i64 0, .string ⟨#[]⟩, .int .u64 0, .slice none 0 0] 25)
  have hsn := n.lt
  generalize hw : w1.alloc (.cells #[.int .u8 1, .int .i64 0, .string ⟨#[]⟩, .int .u64 0, .slice none 0 0] 25) = w2 at hR hK n o hsn ⊢
  clear hw
  have hrow : Row w2 w2.heap.size (.slice none 0 0) [] := Row.nil _ _
  have hB0 := Nat.le_refl w2.heap.size
  go_loopg [] f (fun g wr => ProgRel w r E d (programL g0 typ stmts) t s' w2.heap.size w.heap.size w1.heap.size g wr)
  case atStart => exact ⟨[], _, none, 0, hm, hR, n, o, hrow, hK, hB0, by simp; omega⟩
  case round =>
    clear hR hK hrow n o hm hB0
    obtain ⟨acc, sl, ao, cap, hm, hR, n, o, hrow, hK, hB, hlen⟩ := hrel
    cases gk with
    | zero => cases hm
    | succ gk =>
      have hw0 := hK.size
      have hkn := hR.lt
      have hrowi := KI.refl w2.heap.size wr.heap.size wr
      unfold programL at hm
      replace hm := look_some hm
      obtain ⟨q, hq⟩ : ∃ q, isT 1 [⟨#[114, 101, 99, 111, 114, 100]⟩] (nxt E sl) = q := ⟨_, rfl⟩
      have hq2 : wd [114, 101, 99, 111, 114, 100] (nxt E sl) = q := (isT_wd _ _).symm.trans hq
      rw [hq2] at hm
      clear hq2
      go_wp2_with fail
      refine (pword_as (hR.alloc _) hE (xs := [⟨#[114, 101, 99, 111, 114, 100]⟩]) (Own.new wr _ _) 1 rfl (by omega) q hq).mono ?_
      rintro en w3 ⟨rfl, hR2, hb⟩
      have hs3 := (((Kp.refl r wr).alloc _).trans (Kp.of hb)).size
      replace o := (o.alloc _).below hb
      replace n := (n.alloc _).below hb
      replace hrowi := hrowi.kp (by omega) (((Kp.refl r _).alloc _).trans (Kp.of hb)) (by omega)
      replace hK := (hK.alloc _).trans (Kp.of hb)
      replace hR := hR2
      clear hb hR2
      clear hq
      cases q with
      | true =>
        rw [if_pos rfl] at hm
        obtain ⟨t1, s7, h13, h14⟩ := bnd_some hm
        clear hm
        have hnb := n.lt
        obtain ⟨n0, n1, n2, n3, n4, nf⟩ := n.five
        have hrow2 := hrow.q_ki (x := w1.heap.size) hrowi (Nat.le_refl _) (by omega)
        go_wp2_with fail
        have hfx := fn_record
        go_region_law (first | (refine step_call1 (by rfl) 50 (.tmp 14) 58 (by rfl) hfx _ (by rfl) (HRe _ r E d _ t1 s7 hR.drew hE hd h13) ?_; rintro en wa7 ⟨k1, a1, b1, n1x, v1, rfl, hN, hR7, hK7⟩; refine ⟨_, rfl, ?_⟩; have n7 := n.drew.kp hK7 (by omega); obtain ⟨m0, m1, m2, m3, m4, mf⟩ := n7.five; have hs7 := hK7.size; rw [World.size_drew] at hs7; have hl7 := n7.lt) | (refine step_appQ (by rfl) (.tmp 13) (.tmp 16) (by rfl) (fun g => w2.heap.size ≤ g ∧ g ≠ w1.heap.size) _ acc (by rfl) _ (hrow2.on fun g hg cur ho => ho.drew) (fun g cur hg ho => ho.kp (hK7.alloc _) (by omega)) t1 k1 a1 b1 n1x v1 wa7.heap.size (by rfl) (Own.new wa7 _ _) ((hN.q.imp fun g g1 g2 => ⟨g2, by rw [World.size_drew] at g2; exact ⟨by omega, by omega⟩⟩).on fun g hg cur ho => ho.alloc _) (by simp; omega) (by rw [World.size_drew, World.size_alloc]; omega) (by rw [World.size_alloc]; exact ⟨by omega, by omega⟩) ?_; intro ao8 cap8 wa8 hrow8 gz8 hvb8; rw [World.size_drew] at hvb8; have n8 := (n7.alloc _).grown gz8 (fun e => (hvb8 _ e.symm).1.2 rfl); obtain ⟨p0, p1, p2, p3, p4, pf⟩ := n8.five))
        all_goals
          have hll9 : (acc ++ [t1]).length = acc.length + 1 := by simp
          rw [hll9] at hrow8
          have hR9 := ((hR7.alloc (.cells #[.int .u8 k1, .int .i64 a1, .string b1, .int .u64 n1x, v1] 25)).grown gz8 (fun k hk => by have := (hvb8 k hk).1; omega)).set (i := 4) (g := w1.heap.size) (by omega) (.slice ao8 (acc.length + 1) cap8)
          have hK9 := (((hK.drew.trans (hK7.alloc (.cells #[.int .u8 k1, .int .i64 a1, .string b1, .int .u64 n1x, v1] 25))).grown gz8 (fun k hk => by have := (hvb8 k hk).1; omega)).set (g := w1.heap.size) (.inl (by omega)) 4 (.slice ao8 (acc.length + 1) cap8))
          have o9 := (((o.drew.kp hK7 (by omega)).alloc (.cells #[.int .u8 k1, .int .i64 a1, .string b1, .int .u64 n1x, v1] 25)).grown gz8 (fun e => by have := (hvb8 _ e.symm).1; omega)).other (g' := w1.heap.size) (i := 4) (by omega) (.slice ao8 (acc.length + 1) cap8)
          have n9 := n8.set 4 (.slice ao8 (acc.length + 1) cap8)
          have hrow9 : Row _ w2.heap.size _ _ := RowQ.row ((hrow8.on fun g hg cur ho => ho.other (g' := w1.heap.size) (i := 4) hg.2 (.slice ao8 (acc.length + 1) cap8)).imp fun g _ h => h.1)
          have hs8 := gz8.size
          rw [World.size_alloc] at hs8
          have hs9 : wa7.heap.size < (wa8.setCell ⟨w1.heap.size, 4, none⟩ (.slice ao8 (acc.length + 1) cap8)).heap.size := by rw [World.size_setCell]; omega
          generalize hw : wa8.setCell ⟨w1.heap.size, 4, none⟩ (.slice ao8 (acc.length + 1) cap8) = wa9 at hR9 hK9 hrow9 hs9 n9 o9 ⊢
          clear hw hrow8 gz8 hvb8 n8 p0 p1 p2 p3 p4 pf hN hR7 hK7 n7 m0 m1 m2 m3 m4 mf hrow2 n0 n1 n2 n3 n4 nf
          replace hR := hR9
          replace hK := hK9
          clear hR9 hK9
          replace o := o9
          clear o9
          replace n : Own wa9 w1.heap.size #[.int .u8 1, .int .i64 0, .string ⟨#[]⟩, .int .u64 0, .slice ao8 (acc.length + 1) cap8] 25 := n9
          clear n9
          clear hrow hrowi
          have hrow := hrow9
          clear hrow9
          have hrowi := KI.refl w2.heap.size wa9.heap.size wa9
          have hrow9 := hrow.ki hrowi (Nat.le_refl _)
          have hll : (acc ++ [t1]).length = acc.length + 1 := by simp
          go_wp2
          go_roundg gk
          case rel => exact ⟨acc ++ [t1], s7, ao8, cap8, h14, hR, by rw [hll]; exact n, o, by rw [hll]; exact hrow9, hK, by omega, by rw [hll]; omega⟩
          case measure => omega
      | false =>
        rw [if_neg (by simp)] at hm
        obtain ⟨q, hq⟩ : ∃ q, isT 1 [⟨#[102, 110]⟩] (nxt E sl) = q := ⟨_, rfl⟩
        have hq2 : wd [102, 110] (nxt E sl) = q := (isT_wd _ _).symm.trans hq
        rw [hq2] at hm
        clear hq2
        go_wp2_with fail
        refine (pword_as (hR.alloc _) hE (xs := [⟨#[102, 110]⟩]) (Own.new w3 _ _) 1 rfl (by omega) q hq).mono ?_
        rintro en w4 ⟨rfl, hR2, hb⟩
        have hs4 := (((Kp.refl r w3).alloc _).trans (Kp.of hb)).size
        replace o := (o.alloc _).below hb
        replace n := (n.alloc _).below hb
        replace hrowi := hrowi.kp (by omega) (((Kp.refl r _).alloc _).trans (Kp.of hb)) (by omega)
        replace hK := (hK.alloc _).trans (Kp.of hb)
        replace hR := hR2
        clear hb hR2
        clear hq
        cases q with
        | true =>
          rw [if_pos rfl] at hm
          obtain ⟨t1, s7, h13, h14⟩ := bnd_some hm
          clear hm
          have hnb := n.lt
          obtain ⟨n0, n1, n2, n3, n4, nf⟩ := n.five
          have hrow2 := hrow.q_ki (x := w1.heap.size) hrowi (Nat.le_refl _) (by omega)
          go_wp2_with fail
          have hfx := fn_function
          go_region_law (first | (refine step_call1 (by rfl) 51 (.tmp 27) 58 (by rfl) hfx _ (by rfl) (HFu _ r E d _ t1 s7 hR.drew hE hd h13) ?_; rintro en wa7 ⟨k1, a1, b1, n1x, v1, rfl, hN, hR7, hK7⟩; refine ⟨_, rfl, ?_⟩; have n7 := n.drew.kp hK7 (by omega); obtain ⟨m0, m1, m2, m3, m4, mf⟩ := n7.five; have hs7 := hK7.size; rw [World.size_drew] at hs7; have hl7 := n7.lt) | (refine step_appQ (by rfl) (.tmp 26) (.tmp 29) (by rfl) (fun g => w2.heap.size ≤ g ∧ g ≠ w1.heap.size) _ acc (by rfl) _ (hrow2.on fun g hg cur ho => ho.drew) (fun g cur hg ho => ho.kp (hK7.alloc _) (by omega)) t1 k1 a1 b1 n1x v1 wa7.heap.size (by rfl) (Own.new wa7 _ _) ((hN.q.imp fun g g1 g2 => ⟨g2, by rw [World.size_drew] at g2; exact ⟨by omega, by omega⟩⟩).on fun g hg cur ho => ho.alloc _) (by simp; omega) (by rw [World.size_drew, World.size_alloc]; omega) (by rw [World.size_alloc]; exact ⟨by omega, by omega⟩) ?_; intro ao8 cap8 wa8 hrow8 gz8 hvb8; rw [World.size_drew] at hvb8; have n8 := (n7.alloc _).grown gz8 (fun e => (hvb8 _ e.symm).1.2 rfl); obtain ⟨p0, p1, p2, p3, p4, pf⟩ := n8.five))
          all_goals
            have hll9 : (acc ++ [t1]).length = acc.length + 1 := by simp
            rw [hll9] at hrow8
            have hR9 := ((hR7.alloc (.cells #[.int .u8 k1, .int .i64 a1, .string b1, .int .u64 n1x, v1] 25)).grown gz8 (fun k hk => by have := (hvb8 k hk).1; omega)).set (i := 4) (g := w1.heap.size) (by omega) (.slice ao8 (acc.length + 1) cap8)
            have hK9 := (((hK.drew.trans (hK7.alloc (.cells #[.int .u8 k1, .int .i64 a1, .string b1, .int .u64 n1x, v1] 25))).grown gz8 (fun k hk => by have := (hvb8 k hk).1; omega)).set (g := w1.heap.size) (.inl (by omega)) 4 (.slice ao8 (acc.length + 1) cap8))
            have o9 := (((o.drew.kp hK7 (by omega)).alloc (.cells #[.int .u8 k1, .int .i64 a1, .string b1, .int .u64 n1x, v1] 25)).grown gz8 (fun e => by have := (hvb8 _ e.symm).1; omega)).other (g' := w1.heap.size) (i := 4) (by omega) (.slice ao8 (acc.length + 1) cap8)
            have n9 := n8.set 4 (.slice ao8 (acc.length + 1) cap8)
            have hrow9 : Row _ w2.heap.size _ _ := RowQ.row ((hrow8.on fun g hg cur ho => ho.other (g' := w1.heap.size) (i := 4) hg.2 (.slice ao8 (acc.length + 1) cap8)).imp fun g _ h => h.1)
            have hs8 := gz8.size
            rw [World.size_alloc] at hs8
            have hs9 : wa7.heap.size < (wa8.setCell ⟨w1.heap.size, 4, none⟩ (.slice ao8 (acc.length + 1) cap8)).heap.size := by rw [World.size_setCell]; omega
            generalize hw : wa8.setCell ⟨w1.heap.size, 4, none⟩ (.slice ao8 (acc.length + 1) cap8) = wa9 at hR9 hK9 hrow9 hs9 n9 o9 ⊢
            clear hw hrow8 gz8 hvb8 n8 p0 p1 p2 p3 p4 pf hN hR7 hK7 n7 m0 m1 m2 m3 m4 mf hrow2 n0 n1 n2 n3 n4 nf
            replace hR := hR9
            replace hK := hK9
            clear hR9 hK9
            replace o := o9
            clear o9
            replace n : Own wa9 w1.heap.size #[.int .u8 1, .int .i64 0, .string ⟨#[]⟩, .int .u64 0, .slice ao8 (acc.length + 1) cap8] 25 := n9
            clear n9
            clear hrow hrowi
            have hrow := hrow9
            clear hrow9
            have hrowi := KI.refl w2.heap.size wa9.heap.size wa9
            have hrow9 := hrow.ki hrowi (Nat.le_refl _)
            have hll : (acc ++ [t1]).length = acc.length + 1 := by simp
            go_wp2
            go_roundg gk
            case rel => exact ⟨acc ++ [t1], s7, ao8, cap8, h14, hR, by rw [hll]; exact n, o, by rw [hll]; exact hrow9, hK, by omega, by rw [hll]; omega⟩
            case measure => omega
        | false =>
          rw [if_neg (by simp)] at hm
          obtain ⟨rfl, rfl⟩ := ret_some hm
          obtain ⟨n0, n1, n2, n3, n4, nf⟩ := n.five
          go_wp2_with (refine wpList_put5 rfl (.tmp 2) (.tmp 5) rfl rfl w.heap.size rfl rfl (o) ⟨rfl, rfl, rfl, rfl, rfl⟩ ?_; intro wz oz gz)
          refine bodyPost_cell1 (t := 25) rfl rfl rfl oz Tryz.underlying25 rfl (by kernel_rfl) ?_
          exact ⟨_, _, _, _, _, rfl, ⟨rfl, rfl, rfl, rfl, ((hrow.ki (hrowi.grown (by omega) gz (by omega)) (Nat.le_refl _)).mono (by omega))⟩, (hR).grown gz (some_lt (by omega)), (hK).grown gz (some_le (by omega))⟩
theorem pfunction_as {typ : P Tree} {stmts : P (List Tree)} {c : Nat} (f : Nat) (hf : f ≤ 100000000) (HF : PartAs 65 (fieldP typ) c) (HRs : PartAs 69 (resultsP f typ) c) (HB : PartAs 70 (blockP stmts) c) : PartAs 51 (functionP f typ stmts) (c + 1) := by
  intro w r E d s t s' hR hE hd hm
  have hrl := hR.lt
  have hK := Kp.refl r w
  obtain ⟨tk0, s0, h1, h2⟩ := bnd_some hm
  obtain ⟨rfl, rfl⟩ := take_some h1
  obtain ⟨tk, s1, h3, h4⟩ := bnd_some h2
  replace h4 := look_some h4
  obtain ⟨l, s2, h5, h6⟩ := bnd_some h4
  obtain ⟨x2, s3, h7, h8⟩ := bnd_some h6
  obtain ⟨x3, s4, h9, h10⟩ := bnd_some h8
  obtain ⟨rfl, rfl⟩ := ret_some h10
  obtain ⟨k0, tx0, nn0, a0, e0, ht0⟩ := tokIs (nxt E s)
  obtain ⟨q, hq⟩ : ∃ q, nm (nxt E (popS s)) = q := ⟨_, rfl⟩
  have hn : needT q E d (popS s) = some (tk, s1) := by rw [← hq]; exact h3
  obtain ⟨k, tx, nn, a, e, ht⟩ := tokIs tk
  obtain ⟨k', tx', nn', a', e', ht'⟩ := tokIs (nxt E s1)
  clear hm h1 h2 h3 h4 h6 h8 h10
  go_enter Tryz.func51, Tryz.ntmps51
  go_upto_region 1 with fail
  have hzo := hR.lt
  have hko := hK.size
  have o := Own.new w #[.int .u8 0, .int .i64 0, .string ⟨#[]⟩, .int .u64 0, .slice none 0 0] 25
  replace hR := hR.alloc (.cells #[.int .u8 0, .int .i64 0, .string ⟨#[]⟩, .int .u64 0, .slice none 0 0] 25)
  replace hK := hK.alloc (.cells #[.int .u8 0, .int .i64 0, .string ⟨#[]⟩, .int .u64 0, .slice none 0 0] 25)
  generalize hw : w.alloc (.cells #[.int .u8 0, .int .i64 0, .string ⟨#[]⟩, .int .u64 0, .slice none 0 0] 25) = w1 at hR hK o ⊢
  clear hw
  have hs1 := o.lt
  go_wp2_with fail
  refine (ptake_as hR hE ht0).mono ?_
  rintro en w2 ⟨rfl, hR2, hK2⟩
  have hs2 := (((Kp.refl r w1)).trans hK2).size
  replace o := (o).kp hK2 (by omega)
  replace hK := (hK).trans hK2
  replace hR := hR2
  clear hK2 hR2
  go_wp2_with fail
  refine (pname_as hR hE q hq).mono ?_
  rintro en w3 ⟨rfl, hR2, hb⟩
  have hs3 := (((Kp.refl r w2)).trans (Kp.of hb)).size
  replace o := (o).below hb
  replace hK := (hK).trans (Kp.of hb)
  replace hR := hR2
  clear hb hR2
  go_wp2_with fail
  refine (pneed_as hR hE q hn ht).mono ?_
  rintro en w4 ⟨rfl, hR2, hK2⟩
  have hs4 := (((Kp.refl r w3)).trans hK2).size
  replace o := (o).kp hK2 (by omega)
  replace hK := (hK).trans hK2
  replace hR := hR2
  clear hK2 hR2
  clear hq hn
  go_upto_region 3 with fail
  have hzp := hR.lt
  have hkp := hK.size
  have p := Own.new w4 #[.int .u8 k, .string tx, .int .u64 nn, .int .i64 a, .int .i64 e] 77
  replace hR := hR.alloc (.cells #[.int .u8 k, .string tx, .int .u64 nn, .int .i64 a, .int .i64 e] 77)
  replace hK := hK.alloc (.cells #[.int .u8 k, .string tx, .int .u64 nn, .int .i64 a, .int .i64 e] 77)
  replace o := o.alloc (.cells #[.int .u8 k, .string tx, .int .u64 nn, .int .i64 a, .int .i64 e] 77)
  generalize hw : w4.alloc (.cells #[.int .u8 k, .string tx, .int .u64 nn, .int .i64 a, .int .i64 e] 77) = w5 at hR hK p o ⊢
  clear hw
  have hs5 := p.lt
  go_wp2_with fail
  refine (pnext_as hR hE ht').mono ?_
  rintro en w6 ⟨rfl, hb⟩
  have hR2 := hR.below hb
  have hs6 := (((Kp.refl r w5)).trans (Kp.of hb)).size
  replace o := (o).below hb
  replace p := (p).below hb
  replace hK := (hK).trans (Kp.of hb)
  replace hR := hR2
  clear hb hR2
  go_upto_region 4 with fail
  have hzn := hR.lt
  have hkn := hK.size
  have n := Own.new w6 #[.int .u8 5, .int .i64 a', .string ⟨#[]⟩, .int .u64 0, .slice none 0 0] 25
  replace hR := hR.alloc (.cells #[.int .u8 5, .int .i64 a', .string ⟨#[]⟩, .int .u64 0, .slice none 0 0] 25)
  replace hK := hK.alloc (.cells #[.int .u8 5, .int .i64 a', .string ⟨#[]⟩, .int .u64 0, .slice none 0 0] 25)
  replace o := o.alloc (.cells #[.int .u8 5, .int .i64 a', .string ⟨#[]⟩, .int .u64 0, .slice none 0 0] 25)
  replace p := p.alloc (.cells #[.int .u8 5, .int .i64 a', .string ⟨#[]⟩, .int .u64 0, .slice none 0 0] 25)
  generalize hw : w6.alloc (.cells #[.int .u8 5, .int .i64 a', .string ⟨#[]⟩, .int .u64 0, .slice none 0 0] 25) = w7 at hR hK n o p ⊢
  clear hw
  have hs7 := n.lt
  go_wp2_with fail
  refine (pperhaps_as fn_field HF f hf _ _ _ _ _ _ _ hR hE (by omega) h5).mono ?_
  rintro en w8 ⟨v2, rfl, hrow, hR2, hK2⟩
  have hs8 := (((Kp.refl r w7)).trans hK2).size
  replace o := (o).kp hK2 (by omega)
  replace p := (p).kp hK2 (by omega)
  replace n := (n).kp hK2 (by omega)
  replace hK := (hK).trans hK2
  replace hR := hR2
  clear hK2 hR2
  have hrowi := KI.refl w7.heap.size w8.heap.size w8
  obtain ⟨ao, cap, rfl⟩ := hrow.shape
  clear h5
  go_upto_region 5 with (first | (refine wpList_put1nodes rfl (.tmp 23) (.tmp 22) rfl rfl w6.heap.size 4 rfl rfl n (by simp) ?_; intro wq0 nq0 gq0))
  have hs9 := gq0.size
  replace o := o.grown gq0 (some_ne (by omega))
  replace p := p.grown gq0 (some_ne (by omega))
  replace hrowi := hrowi.grown (by omega) gq0 (by omega)
  replace hR := hR.grown gq0 (some_lt (by omega))
  replace hK := hK.grown gq0 (some_le (by omega))
  replace n : Own wq0 w6.heap.size #[.int .u8 5, .int .i64 a', .string ⟨#[]⟩, .int .u64 0, .slice ao l.length cap] 25 := nq0
  clear nq0 gq0
  generalize hw : wq0 = w9 at *
  clear hw
  have hrow2 := hrow.ki hrowi (Nat.le_refl _)
  have hP : NodeQ w9 (fun g => w7.heap.size ≤ g ∧ g < w9.heap.size) ⟨5, (nxt E s1).2.2.2.1, [], 0, l⟩ 5 a' ⟨#[]⟩ 0 (.slice ao l.length cap) := NodeQ.imp (Q := fun g => w7.heap.size ≤ g) ⟨rfl, ht'.2.2.2.1, rfl, rfl, hrow2⟩ fun g h1 h2 => ⟨h2, h1⟩
  clear hrow hrowi hrow2
  obtain ⟨p0, p1, p2, p3, p4, pf⟩ := p.five
  have hlp := p.lt
  obtain ⟨n0, n1, n2, n3, n4, nf⟩ := n.five
  have hln := n.lt
  have hnpo : w4.heap.size ≠ w.heap.size := by omega
  have hnpo2 : w.heap.size ≠ w4.heap.size := by omega
  have hnno : w6.heap.size ≠ w.heap.size := by omega
  have hnno2 : w.heap.size ≠ w6.heap.size := by omega
  go_region_held3 (fun w' => w'.cell? ⟨w4.heap.size, 3, none⟩ = some (.int .i64 a) ∧ w'.cell? ⟨w4.heap.size, 1, none⟩ = some (.string tx) ∧ w'.cell? ⟨w6.heap.size, 0, none⟩ = some (.int .u8 5) ∧ w'.cell? ⟨w6.heap.size, 1, none⟩ = some (.int .i64 a') ∧ w'.cell? ⟨w6.heap.size, 2, none⟩ = some (.string ⟨#[]⟩) ∧ w'.cell? ⟨w6.heap.size, 3, none⟩ = some (.int .u64 0) ∧ w'.cell? ⟨w6.heap.size, 4, none⟩ = some (.slice ao l.length cap)) (go_keep) (first | (go_at_call 69; refine (HRs w9.drew r E d _ x2 s3 hR.drew hE (by omega) h7).mono ?_; rintro en wa7 ⟨k2, a2, b2, n2x, v2, rfl, hN2, hR7, hK7⟩; obtain ⟨ao_m2, cap_m2, rfl⟩ := hN2.q.shape; have hs7 := hK7.size; rw [World.size_drew] at hs7; have p7 := p.drew.kp hK7 (by omega); have n7 := n.drew.kp hK7 (by omega); obtain ⟨p70, p71, p72, p73, p74, p7f⟩ := p7.five; obtain ⟨n70, n71, n72, n73, n74, n7f⟩ := n7.five; have hlp7 := p7.lt; have hln7 := n7.lt) | (go_at_call 70; refine (HB wa7 r E d _ x3 s4 hR7 hE (by omega) h9).mono ?_; rintro en wa8 ⟨k3, a3, b3, n3x, v3, rfl, hN3, hR8, hK8⟩; obtain ⟨ao_m3, cap_m3, rfl⟩ := hN3.q.shape; have hs8 := hK8.size; have p8 := p7.kp hK8 (by omega); have n8 := n7.kp hK8 (by omega); obtain ⟨p80, p81, p82, p83, p84, p8f⟩ := p8.five; obtain ⟨n80, n81, n82, n83, n84, n8f⟩ := n8.five; have o8 := (o.drew.kp hK7 (by omega)).kp hK8 (by omega); obtain ⟨o80, o81, o82, o83, o84, o8f⟩ := o8.five; have hol := o8.lt; have hlp8 := p8.lt; have hln8 := n8.lt))
  all_goals
    have p1 := ((hP.imp (Q' := fun g => w.heap.size < g ∧ g < w9.heap.size) fun g _ h => ⟨by omega, by omega⟩).on fun g hg cur ho => (ho.drew.kp hK7 (by omega)).kp hK8 (by omega)).on fun g hg cur ho => ho.other5 (g' := w.heap.size) (by omega) (.int .u8 4) (.int .i64 a) (.string tx) (.int .u64 0) (.slice (some ⟨wa8.heap.size, 0, none⟩) 3 3)
    have p2 := ((hN2.q.imp (Q' := fun g => w.heap.size < g ∧ w9.heap.size ≤ g ∧ g < wa7.heap.size) fun g h1 h => by rw [World.size_drew] at h; exact ⟨by omega, by omega, h1⟩).on fun g hg cur ho => ho.kp hK8 (by omega)).on fun g hg cur ho => ho.other5 (g' := w.heap.size) (by omega) (.int .u8 4) (.int .i64 a) (.string tx) (.int .u64 0) (.slice (some ⟨wa8.heap.size, 0, none⟩) 3 3)
    have p3 := (hN3.q.imp (Q' := fun g => w.heap.size < g ∧ wa7.heap.size ≤ g) fun g _ h => ⟨by omega, h⟩).on fun g hg cur ho => ho.other5 (g' := w.heap.size) (by omega) (.int .u8 4) (.int .i64 a) (.string tx) (.int .u64 0) (.slice (some ⟨wa8.heap.size, 0, none⟩) 3 3)
    have hrow := RowQ.three w9.heap.size wa7.heap.size hs7 p1 p2 p3 (by rw [set5_size]; omega)
    rw [set5_size] at hrow
    have hR9 := (hR8.set5 (g := w.heap.size) (by omega) (.int .u8 4) (.int .i64 a) (.string tx) (.int .u64 0) (.slice (some ⟨wa8.heap.size, 0, none⟩) 3 3)).alloc (.cells #[.int .u8 5, .int .i64 a', .string ⟨#[]⟩, .int .u64 0, .slice ao l.length cap, .int .u8 k2, .int .i64 a2, .string b2, .int .u64 n2x, .slice ao_m2 x2.kids.length cap_m2, .int .u8 k3, .int .i64 a3, .string b3, .int .u64 n3x, .slice ao_m3 x3.kids.length cap_m3] 25)
    have hK9 := (((hK.drew.trans hK7).trans hK8).set5 (g := w.heap.size) (.inl (Nat.le_refl _)) (.int .u8 4) (.int .i64 a) (.string tx) (.int .u64 0) (.slice (some ⟨wa8.heap.size, 0, none⟩) 3 3)).alloc (.cells #[.int .u8 5, .int .i64 a', .string ⟨#[]⟩, .int .u64 0, .slice ao l.length cap, .int .u8 k2, .int .i64 a2, .string b2, .int .u64 n2x, .slice ao_m2 x2.kids.length cap_m2, .int .u8 k3, .int .i64 a3, .string b3, .int .u64 n3x, .slice ao_m3 x3.kids.length cap_m3] 25)
    have o9 := (o8.set5 (.int .u8 4) (.int .i64 a) (.string tx) (.int .u64 0) (.slice (some ⟨wa8.heap.size, 0, none⟩) 3 3)).alloc (.cells #[.int .u8 5, .int .i64 a', .string ⟨#[]⟩, .int .u64 0, .slice ao l.length cap, .int .u8 k2, .int .i64 a2, .string b2, .int .u64 n2x, .slice ao_m2 x2.kids.length cap_m2, .int .u8 k3, .int .i64 a3, .string b3, .int .u64 n3x, .slice ao_m3 x3.kids.length cap_m3] 25)
    have hrow9 : Row _ w.heap.size _ _ := hrow.imp fun g _ h => Nat.le_of_lt h
    go_wp2
    refine bodyPost_cell1 (t := 25) rfl rfl rfl o9 Tryz.underlying25 rfl (by kernel_rfl) ?_
    exact ⟨_, _, _, _, _, rfl, ⟨rfl, ht.2.2.2.1, ht.2.1, rfl, hrow9⟩, hR9, hK9⟩
end Go.Proofs.YtmhnbklchnnbaaaGreatDoor
