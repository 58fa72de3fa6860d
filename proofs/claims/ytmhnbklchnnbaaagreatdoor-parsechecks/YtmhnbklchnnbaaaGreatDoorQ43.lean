import Derived.Test.YtmhnbklchnnbaaaGreatDoorJStmt7
import Derived.Test.YtmhnbklchnnbaaaGreatDoorQ28
import Derived.Test.YtmhnbklchnnbaaaGreatDoorQ35
import Derived.Deep.LoopGhost
set_option maxHeartbeats 1000000
set_option maxRecDepth 100000
namespace Go.Proofs.YtmhnbklchnnbaaaGreatDoor
open Go.RowKit
set_option linter.unusedVariables false
def LineAs (m : P Tree) (j c : Nat) : Prop := ∀ (z : Int), z = 5 - (j : Int) → ∀ (w : World) (r E d : Nat) (s : St) (t : Tree) (s' : St), RdAt w r E d s → E ≤ 1048576 → d + c ≤ 1000000000 → m E d s = some (t, s') → Calls Tryz.prog 52 #[.pointer (some ⟨r, 0, none⟩), .int .i64 z] w (NodeRet w r E d t s')
def LineRel (w : World) (r E d : Nat) (k : Nat) (next : P Tree) (t : Tree) (s' : St) (B g4 g5 : Nat) (g : Nat) (wr : World) : Prop :=
  ∃ (n : Tree) (sl : St) (kk a : Int) (b : ByteArray) (nn : Int) (ao : Option Addr) (cap : Nat), lineL k next g n E d sl = some (t, s') ∧ RdAt wr r E d sl ∧ Own wr g5 #[.int .u8 kk, .int .i64 a, .string b, .int .u64 nn, .slice ao n.kids.length cap] 25 ∧ Own wr g4 #[.int .u8 0, .int .i64 0, .string ⟨#[]⟩, .int .u64 0, .slice none 0 0] 25 ∧
    NodeQ wr (fun g => B ≤ g ∧ g ≠ g5) n kk a b nn (.slice ao n.kids.length cap) ∧ Kp r w wr ∧ g5 < wr.heap.size
theorem pline_as {unary : P Tree} {c : Nat} (HU : PartAs 71 unary c) (f : Nat) (hf : f ≤ 100000000) : ∀ j : Nat, j ≤ 5 → LineAs (lineP unary f j) j c := by
  intro j
  induction j with
  | zero =>
    intro hj z hz w r E d s t s' hR hE hd hm
    have hrl := hR.lt
    have hK := Kp.refl r w
    have hz5 : z = 5 := by omega
    subst hz5
    clear hz
    go_enter Tryz.func52, Tryz.ntmps52
    go_upto_region 1 with fail
    have hzo := hR.lt
    have hko := hK.size
    have o := Own.new w #[.int .u8 0, .int .i64 0, .string ⟨#[]⟩, .int .u64 0, .slice none 0 0] 25
    replace hR := hR.alloc (.cells #[.int .u8 0, .int .i64 0, .string ⟨#[]⟩, .int .u64 0, .slice none 0 0] 25)
    replace hK := hK.alloc (.cells #[.int .u8 0, .int .i64 0, .string ⟨#[]⟩, .int .u64 0, .slice none 0 0] 25)
    generalize hw : w.alloc (.cells #[.int .u8 0, .int .i64 0, .string ⟨#[]⟩, .int .u64 0, .slice none 0 0] 25) = w1 at hR hK o ⊢
    clear hw
    have hs1 := o.lt
    go_wp2_with fail
    refine (HU _ _ _ _ _ _ _ hR hE hd hm).mono ?_
    rintro en w2 ⟨k1, a1, b1, n1x, v1, rfl, n1, hR2, hK2⟩
    have hs2 := (((Kp.refl r w1)).trans hK2).size
    replace o := (o).kp hK2 (by omega)
    replace hK := (hK).trans hK2
    replace hR := hR2
    clear hK2 hR2
    have n1i := KI.refl w1.heap.size w2.heap.size w2
    go_wp2_with (refine wpList_put5 rfl (.tmp 4) (.tmp 12) rfl rfl w.heap.size rfl rfl (o) ⟨rfl, rfl, rfl, rfl, n1.2.2.2.2.one1⟩ ?_; intro wz oz gz)
    refine bodyPost_cell1 (t := 25) rfl rfl rfl oz Tryz.underlying25 rfl (by kernel_rfl) ?_
    exact ⟨_, _, _, _, _, rfl, (n1.ki (n1i.grown (by omega) gz (by omega)) (Nat.le_refl _)).mono (by omega), (hR).grown gz (some_lt (by omega)), (hK).grown gz (some_le (by omega))⟩
  | succ j ih =>
    intro hj z hz w r E d s t s' hR hE hd hm
    have hrl := hR.lt
    have hK := Kp.refl r w
    have hz0 : 0 ≤ z ∧ z ≤ 4 := by omega
    have hz5 : (z == 5) = false := by simp; omega
    have HZ1 : Hid (z + 1 = 5 - (j : Int)) := by unfold Hid; omega
    have HWZ : Hid (IntKind.i64.wrap (z + 1) = z + 1) := by unfold Hid; rw [IntWalk.i64_left]; unfold wrap64; omega
    have HZ : Hid (z = ((4 - j : Nat) : Int)) := by unfold Hid; omega
    have HI : Hid (LineAs (lineP unary f j) j c) := ih (by omega)
    clear ih hz
    obtain ⟨n0, s1, h1, h2⟩ := bnd_some hm
    clear hm
    go_enter Tryz.func52, Tryz.ntmps52
    go_upto_region 1 with fail
    have hzo := hR.lt
    have hko := hK.size
    have o := Own.new w #[.int .u8 0, .int .i64 0, .string ⟨#[]⟩, .int .u64 0, .slice none 0 0] 25
    replace hR := hR.alloc (.cells #[.int .u8 0, .int .i64 0, .string ⟨#[]⟩, .int .u64 0, .slice none 0 0] 25)
    replace hK := hK.alloc (.cells #[.int .u8 0, .int .i64 0, .string ⟨#[]⟩, .int .u64 0, .slice none 0 0] 25)
    generalize hw : w.alloc (.cells #[.int .u8 0, .int .i64 0, .string ⟨#[]⟩, .int .u64 0, .slice none 0 0] 25) = w1 at hR hK o ⊢
    clear hw
    have hs1 := o.lt
    go_wp2_with fail
    refine (HI.out (z + 1) HZ1.out _ _ _ _ _ _ _ hR hE hd h1).mono ?_
    rintro en w2 ⟨k1, a1, b1, n1x, v1, rfl, n1, hR2, hK2⟩
    obtain ⟨ao_n1, cap_n1, rfl⟩ := n1.2.2.2.2.shape
    have hs2 := (((Kp.refl r w1)).trans hK2).size
    replace o := (o).kp hK2 (by omega)
    replace hK := (hK).trans hK2
    replace hR := hR2
    clear hK2 hR2
    have n1i := KI.refl w1.heap.size w2.heap.size w2
    clear h1
    go_wp2_with fail
    have m := Own.new w2 #[.int .u8 k1, .int .i64 a1, .string b1, .int .u64 n1x, .slice ao_n1 n0.kids.length cap_n1] 25
    replace hR := hR.alloc (.cells #[.int .u8 k1, .int .i64 a1, .string b1, .int .u64 n1x, .slice ao_n1 n0.kids.length cap_n1] 25)
    replace hK := hK.alloc (.cells #[.int .u8 k1, .int .i64 a1, .string b1, .int .u64 n1x, .slice ao_n1 n0.kids.length cap_n1] 25)
    replace o := o.alloc (.cells #[.int .u8 k1, .int .i64 a1, .string b1, .int .u64 n1x, .slice ao_n1 n0.kids.length cap_n1] 25)
    have hsm := m.lt
    have nq : NodeQ (w2.alloc (.cells #[.int .u8 k1, .int .i64 a1, .string b1, .int .u64 n1x, .slice ao_n1 n0.kids.length cap_n1] 25)) (fun g => w1.heap.size ≤ g ∧ g ≠ w2.heap.size) n0 k1 a1 b1 n1x (.slice ao_n1 n0.kids.length cap_n1) := (n1.q.imp fun g h1 h2 => ⟨h2, by omega⟩).on fun g hg cur ho => ho.alloc _
    generalize hw : w2.alloc (.cells #[.int .u8 k1, .int .i64 a1, .string b1, .int .u64 n1x, .slice ao_n1 n0.kids.length cap_n1] 25) = w3 at hR hK m o nq hsm ⊢
    clear hw n1 n1i
    go_loopg [] f (fun g wr => LineRel w r E d (4 - j) (lineP unary f j) t s' w1.heap.size w.heap.size w2.heap.size g wr)
    case atStart => exact ⟨n0, s1, k1, a1, b1, n1x, ao_n1, cap_n1, h2, hR, m, o, nq, hK, hsm⟩
    case round =>
      clear hR hK m o nq h2 hsm
      obtain ⟨n, sl, k, a, b, nn, ao, cap, hm, hR, m, o, nq, hK, hsz⟩ := hrel
      cases gk with
      | zero => cases hm
      | succ gk =>
        unfold lineL at hm
        replace hm := look_some hm
        obtain ⟨k0, tx0, nn0, a0, e0, ht0⟩ := tokIs (nxt E sl)
        have hgt : goodT (nxt E sl) := nxt_good hR 0
        obtain ⟨kb, hkb⟩ : ∃ kb : Int, ((betw (nxt E sl)).1 : Int) = kb := ⟨_, rfl⟩
        obtain ⟨ob, hob⟩ : ∃ ob : Int, ((betw (nxt E sl)).2 : Int) = ob := ⟨_, rfl⟩
        have HKB : Hid (((betw (nxt E sl)).1 : Int) = kb) := hkb
        have HOB : Hid (((betw (nxt E sl)).2 : Int) = ob) := hob
        go_wp2_with fail
        refine (pnext_as hR hE ht0).mono ?_
        rintro en w4 ⟨rfl, hb⟩
        have hR2 := hR.below hb
        have hs4 := (((Kp.refl r wr)).trans (Kp.of hb)).size
        replace o := (o).below hb
        replace m := (m).below hb
        replace nq := nq.on fun g hg cur ho => (ho).below hb
        replace hK := (hK).trans (Kp.of hb)
        replace hR := hR2
        clear hb hR2
        have hpb := pbetween_as w4 hgt ht0
        rw [hkb, hob] at hpb
        clear hkb hob
        go_wp2_with fail
        refine hpb.mono ?_
        clear hpb
        rintro en w5 ⟨rfl, hb⟩
        have hR2 := hR.below hb
        have hs5 := (((Kp.refl r w4)).trans (Kp.of hb)).size
        replace o := (o).below hb
        replace m := (m).below hb
        replace nq := nq.on fun g hg cur ho => (ho).below hb
        replace hK := (hK).trans (Kp.of hb)
        replace hR := hR2
        clear hb hR2
        by_cases hb0 : kb = 0
        · subst hb0
          rw [if_pos (.inl (by have := HKB.out; omega))] at hm
          obtain ⟨rfl, rfl⟩ := ret_some hm
          obtain ⟨m0, m1, m2, m3, m4, mf⟩ := m.five
          go_wp2_with (refine wpList_put5 rfl (.tmp 4) (.tmp 32) rfl rfl w.heap.size rfl rfl (o) ⟨rfl, rfl, rfl, rfl, rfl⟩ ?_; intro wz oz gz)
          refine bodyPost_cell1 (t := 25) rfl rfl rfl oz Tryz.underlying25 rfl (by kernel_rfl) ?_
          exact ⟨_, _, _, _, _, rfl, ((nq.on fun g hg cur ho => ho.grown gz (some_ne (by omega))).imp fun g _ h => (by omega : w.heap.size ≤ g)).is, hR.grown gz (some_lt (by omega)), hK.grown gz (some_le (by omega))⟩
        · have hkb0 : (kb == 0) = false := by simpa using hb0
          by_cases hb1 : ob = z
          · have hoz : (ob != z) = false := by simpa using hb1
            rw [if_neg (by have := HKB.out; have := HOB.out; have := HZ.out; omega)] at hm
            obtain ⟨tk, s2, h3, h4⟩ := bnd_some hm
            obtain ⟨rfl, rfl⟩ := take_some h3
            obtain ⟨t1, s3, h5, h6⟩ := bnd_some h4
            clear hm h3 h4 hb0
            go_wp2_with fail
            refine (ptake_as hR hE ht0).mono ?_
            rintro en w6 ⟨rfl, hR2, hK2⟩
            have hs6 := (((Kp.refl r w5)).trans hK2).size
            replace o := (o).kp hK2 (by omega)
            replace m := (m).kp hK2 (by omega)
            replace nq := nq.on fun g hg cur ho => (ho).kp hK2 (by omega)
            replace hK := (hK).trans hK2
            replace hR := hR2
            clear hK2 hR2
            have hfx := fn_line
            have hms := m.lt
            have HI2 := HI.out
            obtain ⟨m0, m1, m2, m3, m4, mf⟩ := m.five
            go_wp2_with fail
            go_region_law (refine step_call2 (by rfl) 52 (.tmp 41) (.tmp 43) 58 3 (by rfl) hfx _ (.int .i64 (z + 1)) (by rfl) (Eq.trans (b := Value.int .i64 (IntKind.i64.wrap (z + 1))) (by rfl) (by rw [HWZ.out])) (HI2 (z + 1) HZ1.out _ r E d _ t1 s3 hR.drew hE hd h5) ?_; rintro en w7 ⟨k2, a2, b2, n2, v2, rfl, hN2, hR7, hK7⟩; refine ⟨_, rfl, ?_⟩; obtain ⟨ao2, cap2, rfl⟩ := hN2.q.shape; have m7 := m.drew.kp hK7 (by omega); obtain ⟨y0, y1, y2, y3, y4, yf⟩ := m7.five; have hs7 := hK7.size; rw [World.size_drew] at hs7; have hl7 := m7.lt)
            all_goals
              have hQ7 := ((nq.imp (Q' := fun g => (w1.heap.size ≤ g ∧ g ≠ w2.heap.size) ∧ g < w6.heap.size) fun g h1 h2 => ⟨h2, h1⟩).on fun g hg cur ho => (ho.drew.kp hK7 (by omega))).on fun g hg cur ho => ho.other5 (g' := w2.heap.size) (by omega) (.int .u8 kb) (.int .i64 a0) (.string ⟨#[]⟩) (.int .u64 0) (.slice (some ⟨w7.heap.size, 0, none⟩) 2 2)
              have hN7 := (hN2.q.imp (Q' := fun g => (w1.heap.size ≤ g ∧ g ≠ w2.heap.size) ∧ w6.heap.size ≤ g) fun g _ h => by rw [World.size_drew] at h; exact ⟨⟨by omega, by omega⟩, h⟩).on fun g hg cur ho => ho.other5 (g' := w2.heap.size) (by omega) (.int .u8 kb) (.int .i64 a0) (.string ⟨#[]⟩) (.int .u64 0) (.slice (some ⟨w7.heap.size, 0, none⟩) 2 2)
              have hrow := RowQ.two w6.heap.size hQ7 hN7 (by rw [set5_size]; exact ⟨by omega, by omega⟩)
              rw [set5_size] at hrow
              have hR8 := (hR7.set5 (g := w2.heap.size) (by omega) (.int .u8 kb) (.int .i64 a0) (.string ⟨#[]⟩) (.int .u64 0) (.slice (some ⟨w7.heap.size, 0, none⟩) 2 2)).alloc (.cells #[.int .u8 k, .int .i64 a, .string b, .int .u64 nn, .slice ao n.kids.length cap, .int .u8 k2, .int .i64 a2, .string b2, .int .u64 n2, .slice ao2 t1.kids.length cap2] 25)
              have hK8 := ((hK.drew.trans hK7).set5 (g := w2.heap.size) (.inl (by omega)) (.int .u8 kb) (.int .i64 a0) (.string ⟨#[]⟩) (.int .u64 0) (.slice (some ⟨w7.heap.size, 0, none⟩) 2 2)).alloc (.cells #[.int .u8 k, .int .i64 a, .string b, .int .u64 nn, .slice ao n.kids.length cap, .int .u8 k2, .int .i64 a2, .string b2, .int .u64 n2, .slice ao2 t1.kids.length cap2] 25)
              have m8 := (m7.set5 (.int .u8 kb) (.int .i64 a0) (.string ⟨#[]⟩) (.int .u64 0) (.slice (some ⟨w7.heap.size, 0, none⟩) 2 2)).alloc (.cells #[.int .u8 k, .int .i64 a, .string b, .int .u64 nn, .slice ao n.kids.length cap, .int .u8 k2, .int .i64 a2, .string b2, .int .u64 n2, .slice ao2 t1.kids.length cap2] 25)
              have o8 := ((o.drew.kp hK7 (by omega)).other5 (g' := w2.heap.size) (by omega) (.int .u8 kb) (.int .i64 a0) (.string ⟨#[]⟩) (.int .u64 0) (.slice (some ⟨w7.heap.size, 0, none⟩) 2 2)).alloc (.cells #[.int .u8 k, .int .i64 a, .string b, .int .u64 nn, .slice ao n.kids.length cap, .int .u8 k2, .int .i64 a2, .string b2, .int .u64 n2, .slice ao2 t1.kids.length cap2] 25)
              have hs8 : w7.heap.size ≤ (World.alloc (((((w7.setCell ⟨w2.heap.size, 0, none⟩ (.int .u8 kb)).setCell ⟨w2.heap.size, 1, none⟩ (.int .i64 a0)).setCell ⟨w2.heap.size, 2, none⟩ (.string ⟨#[]⟩)).setCell ⟨w2.heap.size, 3, none⟩ (.int .u64 0)).setCell ⟨w2.heap.size, 4, none⟩ (.slice (some ⟨w7.heap.size, 0, none⟩) 2 2)) (.cells #[.int .u8 k, .int .i64 a, .string b, .int .u64 nn, .slice ao n.kids.length cap, .int .u8 k2, .int .i64 a2, .string b2, .int .u64 n2, .slice ao2 t1.kids.length cap2] 25)).heap.size := by rw [World.size_alloc, set5_size]; omega
              generalize hw : World.alloc (((((w7.setCell ⟨w2.heap.size, 0, none⟩ (.int .u8 kb)).setCell ⟨w2.heap.size, 1, none⟩ (.int .i64 a0)).setCell ⟨w2.heap.size, 2, none⟩ (.string ⟨#[]⟩)).setCell ⟨w2.heap.size, 3, none⟩ (.int .u64 0)).setCell ⟨w2.heap.size, 4, none⟩ (.slice (some ⟨w7.heap.size, 0, none⟩) 2 2)) (.cells #[.int .u8 k, .int .i64 a, .string b, .int .u64 nn, .slice ao n.kids.length cap, .int .u8 k2, .int .i64 a2, .string b2, .int .u64 n2, .slice ao2 t1.kids.length cap2] 25) = w8 at hrow hR8 hK8 m8 o8 hs8 ⊢
              clear hw hQ7 hN7 hR7 hK7 m7 y0 y1 y2 y3 y4 yf m0 m1 m2 m3 m4 mf
              have hNew : NodeQ w8 (fun g => w1.heap.size ≤ g ∧ g ≠ w2.heap.size) ⟨(betw (nxt E sl)).1, (nxt E sl).2.2.2.1, [], 0, [n, t1]⟩ kb a0 ⟨#[]⟩ 0 (.slice (some ⟨w7.heap.size, 0, none⟩) 2 2) := ⟨HKB.out.symm, ht0.2.2.2.1, rfl, rfl, hrow⟩
              by_cases hz2 : z = 2
              · subst hz2
                rw [if_pos (by have := HZ.out; omega)] at h6
                obtain ⟨rfl, rfl⟩ := ret_some h6
                obtain ⟨q0, q1, q2, q3, q4, qf⟩ := m8.five
                go_wp2_with (refine wpList_put5 rfl (.tmp 4) (.tmp 49) rfl rfl w.heap.size rfl rfl o8 ⟨rfl, rfl, rfl, rfl, rfl⟩ ?_; intro wz oz gz)
                refine bodyPost_cell1 (t := 25) rfl rfl rfl oz Tryz.underlying25 rfl (by kernel_rfl) ?_
                exact ⟨_, _, _, _, _, rfl, ((hNew.on fun g hg cur ho => ho.grown gz (some_ne (by omega))).imp fun g _ h => (by omega : w.heap.size ≤ g)).is, hR8.grown gz (some_lt (by omega)), hK8.grown gz (some_le (by omega))⟩
              · have hz2b : (z == 2) = false := by simpa using hz2
                rw [if_neg (by have := HZ.out; omega)] at h6
                go_wp2
                go_roundg gk
                case rel => exact ⟨_, s3, _, _, _, _, _, _, h6, hR8, m8, o8, hNew, hK8, by omega⟩
                case measure => omega
          · have hoz : (ob != z) = true := by simpa using hb1
            rw [if_pos (.inr (by have := HOB.out; have := HZ.out; omega))] at hm
            obtain ⟨rfl, rfl⟩ := ret_some hm
            obtain ⟨m0, m1, m2, m3, m4, mf⟩ := m.five
            go_wp2_with (refine wpList_put5 rfl (.tmp 4) (.tmp 32) rfl rfl w.heap.size rfl rfl (o) ⟨rfl, rfl, rfl, rfl, rfl⟩ ?_; intro wz oz gz)
            refine bodyPost_cell1 (t := 25) rfl rfl rfl oz Tryz.underlying25 rfl (by kernel_rfl) ?_
            exact ⟨_, _, _, _, _, rfl, ((nq.on fun g hg cur ho => ho.grown gz (some_ne (by omega))).imp fun g _ h => (by omega : w.heap.size ≤ g)).is, hR.grown gz (some_lt (by omega)), hK.grown gz (some_le (by omega))⟩
theorem pexpr_as {unary : P Tree} {c : Nat} (HU : PartAs 71 unary c) (f : Nat) (hf : f ≤ 100000000) : PartAs 37 (lineP unary f 5) c := by
  intro w r E d s t s' hR hE hd hm
  have hrl := hR.lt
  have hK := Kp.refl r w
  have HL := pline_as HU f hf 5 (Nat.le_refl _)
  go_enter Tryz.func37, Tryz.ntmps37
  go_upto_region 1 with fail
  have hzo := hR.lt
  have hko := hK.size
  have o := Own.new w #[.int .u8 0, .int .i64 0, .string ⟨#[]⟩, .int .u64 0, .slice none 0 0] 25
  replace hR := hR.alloc (.cells #[.int .u8 0, .int .i64 0, .string ⟨#[]⟩, .int .u64 0, .slice none 0 0] 25)
  replace hK := hK.alloc (.cells #[.int .u8 0, .int .i64 0, .string ⟨#[]⟩, .int .u64 0, .slice none 0 0] 25)
  generalize hw : w.alloc (.cells #[.int .u8 0, .int .i64 0, .string ⟨#[]⟩, .int .u64 0, .slice none 0 0] 25) = w1 at hR hK o ⊢
  clear hw
  have hs1 := o.lt
  go_wp2_with fail
  refine (HL 0 (by omega) _ _ _ _ _ _ _ hR hE hd hm).mono ?_
  rintro en w2 ⟨k1, a1, b1, n1x, v1, rfl, n1, hR2, hK2⟩
  have hs2 := (((Kp.refl r w1)).trans hK2).size
  replace o := (o).kp hK2 (by omega)
  replace hK := (hK).trans hK2
  replace hR := hR2
  clear hK2 hR2
  have n1i := KI.refl w1.heap.size w2.heap.size w2
  go_wp2_with (refine wpList_put5 rfl (.tmp 2) (.tmp 4) rfl rfl w.heap.size rfl rfl (o) ⟨rfl, rfl, rfl, rfl, n1.2.2.2.2.one1⟩ ?_; intro wz oz gz)
  refine bodyPost_cell1 (t := 25) rfl rfl rfl oz Tryz.underlying25 rfl (by kernel_rfl) ?_
  exact ⟨_, _, _, _, _, rfl, (n1.ki (n1i.grown (by omega) gz (by omega)) (Nat.le_refl _)).mono (by omega), (hR).grown gz (some_lt (by omega)), (hK).grown gz (some_le (by omega))⟩
set_option linter.unusedSimpArgs false
theorem split_first {l : List Tree} {m : Nat} (h : l.length = m) (h2 : 1 ≤ m) : ∃ (M : Nat) (t0 : Tree) (ks : List Tree), l = t0 :: ks ∧ ks.length = M ∧ m = M + 1 := by
  cases l with
  | nil => simp at h; omega
  | cons t0 ks => exact ⟨ks.length, t0, ks, rfl, rfl, by simp at h; omega⟩
def ExAs (t : Tree) : Prop := ∀ (w : World) (k a : Int) (b : ByteArray) (n : Int) (v : Value), NodeR w t k a b n v → Calls Tryz.prog 27 #[.agg #[.int .u8 k, .int .i64 a, .string b, .int .u64 n, v]] w fun en w' => en = .returned (.bool (vR 2 t)) ∧ Below w.heap.size w w'
theorem pick2 (j : Nat) : pickI (j : Int) [21, 21] = 21 := by
  unfold pickI
  have : (min (j : Int) (([21, 21] : List Int).length - 1)).toNat = 0 ∨ (min (j : Int) (([21, 21] : List Int).length - 1)).toNat = 1 := by simp; omega
  rcases this with h | h <;> rw [h] <;> rfl
theorem ePart (t : Tree) (P : Nat) (q : Bool) (h1 : takesI 21 t.kind = true) (h2 : kidsI t.kind = ((P : Int), (P : Int))) (h3 : (textI t.kind t.text && numI t.kind t.text t.n) = q) (h4 : ∀ j : Nat, asksI 21 t.kind t.kids.length j = 21) : vR 2 t = (q && (decide (t.kids.length = P) && t.kids.all (vR 2))) := by
  rw [vR_2, valid_core, h1, coreT, h2, show vR 2 = validT 21 from rfl, vL_all 21 t.kind _ 21 t.kids 0 h4, ← h3]
  have e : (decide ((P : Int) ≤ (t.kids.length : Int)) && decide ((t.kids.length : Int) ≤ (P : Int))) = decide (t.kids.length = P) := by rw [Bool.eq_iff_iff]; simp; omega
  simp only [Bool.true_and]
  rw [e]
  generalize textI t.kind t.text = a
  generalize numI t.kind t.text t.n = b
  generalize decide (t.kids.length = P) = c
  cases a <;> cases b <;> cases c <;> simp
theorem eAny (t : Tree) (q : Bool) (hl : t.kids.length ≤ 9223372036854775807) (h1 : takesI 21 t.kind = true) (h2 : kidsI t.kind = (0, 9223372036854775807)) (h3 : (textI t.kind t.text && numI t.kind t.text t.n) = q) (h4 : ∀ j : Nat, asksI 21 t.kind t.kids.length j = 21) : vR 2 t = (q && t.kids.all (vR 2)) := by
  rw [vR_2, valid_core, h1, coreT, h2, show vR 2 = validT 21 from rfl, vL_all 21 t.kind _ 21 t.kids 0 h4, ← h3]
  have e : (decide ((0 : Int) ≤ (t.kids.length : Int)) && decide ((t.kids.length : Int) ≤ 9223372036854775807)) = true := by simp; omega
  simp only [Bool.true_and]
  rw [e]
  simp [Bool.and_assoc]
theorem eNo (t : Tree) (h1 : isExprI t.kind = false) : vR 2 t = false := by rw [vR_2, valid_core, show takesI 21 (t.kind : Int) = isExprI t.kind from rfl, h1]; rfl
theorem e47 (t0 : Tree) (ks : List Tree) (a : Int) (x : List Nat) (n : Nat) (hl : ks.length + 1 ≤ 9223372036854775807) : vR 2 ⟨47, a, x, n, t0 :: ks⟩ = (bareB x n && (vR 1 t0 && ks.all (vR 2))) := m2_47 hl
set_option linter.unusedSimpArgs false
def KRel (w : World) (cells : Array Value) (ts : List Tree) (P : Nat → Tree → Bool) (i0 n g : Nat) (iv : Value) (wr : World) : Prop := ∃ j : Nat, j + g = n ∧ i0 ≤ j ∧ iv = .int .i64 (j : Int) ∧ Own wr w.heap.size cells 25 ∧ Below w.heap.size w wr ∧ ∀ i u, i0 ≤ i → i < j → ts[i]? = some u → P i u = true
def vS (t : Tree) : Bool := t.kind == 12 && validT 7 t
theorem v_16 (t : Tree) : vR 16 t = (vR 18 t || vS t) := by
  rw [vR_16, vR_18, vS]
  generalize validT 7 t = c
  cases c <;> simp [Bool.or_comm]
theorem mS2 {a : Int} {x : List Nat} {n : Nat} {t0 t1 : Tree} : vS ⟨12, a, x, n, [t0, t1]⟩ = (bareB x n && (vR 2 t1 && vR 19 t0)) := by
  rw [vS, valid_core 7]
  simp only [coreT]
  simp [vR_2, vR_19, takesI, isStmtI, kidsI, textI, numI, bareB, validT.validL, asksI, eitherI]
  grind
theorem mSn {a : Int} {x : List Nat} {n : Nat} {ks : List Tree} {z : Tree} (h1 : 2 ≤ ks.length) (hl : ks.length + 1 ≤ 9223372036854775807) : vS ⟨12, a, x, n, ks ++ [z]⟩ = (bareB x n && (vR 2 z && ks.all (fun u => u.kind == 44 && vR 2 u))) := by
  rw [vS, valid_core 7, show (fun u : Tree => u.kind == 44 && vR 2 u) = validT 19 from funext fun u => (v_19 u).symm]
  simp only [coreT]
  rw [vL_last 7 12 _ 19 21 ks 0 z (by simp) (fun j hj => by simp at hj; simp [asksI, eitherI]; omega) (by simp [asksI, eitherI])]
  have hl2 : (ks.length : Int) + 1 ≤ 9223372036854775807 := by omega
  have hl3 : (2 : Int) ≤ (ks.length : Int) + 1 := by omega
  simp [vR_2, takesI, isStmtI, kidsI, textI, numI, bareB, hl2, hl3]
  try grind
theorem all_get {ts : List Tree} {P : Tree → Bool} (h : ∀ (i : Nat) (u : Tree), ts[i]? = some u → P u = true) : ts.all P = true := by
  rw [List.all_eq_true]
  intro x hx
  obtain ⟨j, hj⟩ := List.getElem?_of_mem hx
  exact h j x hj
theorem all_not {ts : List Tree} {P : Tree → Bool} {i : Nat} {u : Tree} (h : ts[i]? = some u) (hp : P u = false) : ts.all P = false := by
  rw [List.all_eq_false]
  exact ⟨u, List.mem_of_getElem? h, by simp [hp]⟩
def SetAs (t : Tree) : Prop := ∀ (w : World) (k a : Int) (b : ByteArray) (n : Int) (v : Value), NodeR w t k a b n v → Calls Tryz.prog 33 #[.agg #[.int .u8 k, .int .i64 a, .string b, .int .u64 n, v]] w fun en w' => en = .returned (.bool (vS t)) ∧ Below w.heap.size w w'
end Go.Proofs.YtmhnbklchnnbaaaGreatDoor
