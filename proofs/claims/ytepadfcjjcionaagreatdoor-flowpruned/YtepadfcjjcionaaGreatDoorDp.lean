/-
  CONTRACT of the statement's own depth of a term: a number no greater than how many terms there are.
-/
import Derived.Test.YtepadfcjjcionaaGreatDoorTc
namespace Go.Proofs.YtepadfcjjcionaaGreatDoor
open Go.RowKit
set_option linter.unusedVariables false

def DpRel (w : World) (cells : Array Value) (T m g : Nat) (sv iv : Value) (wr : World) : Prop := ∃ j s : Nat, j + g = m ∧ sv = .int .i64 (s : Int) ∧ iv = .int .i64 (j : Int) ∧ s ≤ T ∧ Own wr w.heap.size cells 24 ∧ Below w.heap.size w wr
set_option maxRecDepth 100000 in
set_option maxHeartbeats 1000000 in
theorem deep_as : ∀ (N : Nat), N ≤ 1000000 → ∀ (t : Tm), cnt t ≤ N → ∀ (w0 w : World) (op ty n : Int) (tx : ByteArray) (v : Value), KidsR w0 v t.ks → Below w0.heap.size w0 w → Calls Tryz.prog 7 #[.agg #[.int .u8 op, .int .i64 ty, .int .i64 n, .string tx, v]] w fun en w' => ∃ d : Nat, en = .returned (.int .i64 (d : Int)) ∧ d ≤ cnt t ∧ Below w.heap.size w w' := by
  intro N
  induction N with
  | zero => intro _ t h; rw [cnt_parts] at h; omega
  | succ N ih =>
    intro hN0 t hN w0 w op ty n tx v hkd hbd
    have HI : Hid (∀ (t : Tm), cnt t ≤ N → ∀ (w0 w : World) (op ty n : Int) (tx : ByteArray) (v : Value), KidsR w0 v t.ks → Below w0.heap.size w0 w → Calls Tryz.prog 7 #[.agg #[.int .u8 op, .int .i64 ty, .int .i64 n, .string tx, v]] w fun en w' => ∃ d : Nat, en = .returned (.int .i64 (d : Int)) ∧ d ≤ cnt t ∧ Below w.heap.size w w') := ih (by omega)
    clear ih
    obtain ⟨ao, cap, rfl, hc1, hc2, _⟩ := id hkd
    obtain ⟨m, hm⟩ : ∃ m, t.ks.length = m := ⟨_, rfl⟩
    obtain ⟨T, hT⟩ : ∃ T, cnt.cntL t.ks = T := ⟨_, rfl⟩
    have HK : Hid (KidsR w0 (.slice ao m cap) t.ks) := by rw [← hm]; exact hkd
    have HM : Hid (t.ks.length = m) := hm
    have HB : Hid (Below w0.heap.size w0 w) := hbd
    have HTT : Hid (cnt.cntL t.ks = T) := hT
    have HT : Hid (cnt t = 1 + T) := by unfold Hid; rw [cnt_parts, hT]
    have hTN : T ≤ N := by have := HT.out; omega
    rw [hm] at hc1 ⊢
    have hmb : m ≤ 9223372036854775807 := by omega
    clear hkd hm hN hbd hT
    have o0 := Own.new w #[.int .u8 op, .int .i64 ty, .int .i64 n, .string tx, .slice ao m cap] 24
    have hb0 : Below w.heap.size w (w.alloc (.cells #[.int .u8 op, .int .i64 ty, .int .i64 n, .string tx, .slice ao m cap] 24)) := (Below.refl _ _).alloc (Nat.le_refl _) _
    go_enter Tryz.func7, Tryz.ntmps7
    go_wp2_with fail
    go_loopg [3, 4] m (fun g sv iv wr => DpRel w #[.int .u8 op, .int .i64 ty, .int .i64 n, .string tx, .slice ao m cap] T m g sv iv wr)
    case atStart => exact ⟨0, 0, by omega, rfl, rfl, by omega, o0, hb0⟩
    case round =>
      clear o0 hb0
      obtain ⟨j, s, hj, rfl, rfl, hs2, o0, hb0⟩ := hrel
      obtain ⟨p00, p01, p02, p03, p04, p05⟩ := o0.five
      have hl0 := o0.lt
      have HJ : Hid (j + gk = m) := hj
      by_cases hlt : j < m
      · have i1 : (j : Int) < (m : Int) := by omega
        obtain ⟨u, hu⟩ : ∃ u, t.ks[j]? = some u := ⟨t.ks[j]'(by rw [HM.out]; exact hlt), List.getElem?_eq_getElem _⟩
        obtain ⟨g2, q2, aj, cj, rfl, hg2, _, hW⟩ := kids_cells HK.out j u hu
        have hbr : Below w0.heap.size w0 wr := HB.out.trans ⟨hb0.os, hb0.tape, hb0.output, hb0.size, fun g hg => hb0.block g (Nat.lt_of_lt_of_le hg HB.out.size)⟩
        obtain ⟨f0, f1, f2, f3, f4, _⟩ := hW wr (fun k hk => hbr.block k hk)
        obtain ⟨_, _, _, _, _, hk1⟩ := hW w0 (fun _ _ => rfl)
        have hg2r : g2 < wr.heap.size := Nat.lt_of_lt_of_le hg2 hbr.size
        have hct : cnt u ≤ T := by have := cnt_get hu; rw [HTT.out] at this; exact this
        have CL := HI.out u (by omega) w0 wr u.op u.ty u.n u.tx _ hk1 hbr
        have hg1 : 1 ≤ gk := by have := HJ.out; omega
        obtain ⟨cu, hcu⟩ : ∃ cu, cnt u = cu := ⟨_, rfl⟩
        rw [hcu] at CL hct
        clear hu hk1 hcu hW hbr
        generalize u.op = uo at *
        generalize u.ty = ut at *
        generalize u.n = un at *
        generalize u.tx = ux at *
        generalize u.ks.length = ul at *
        go_wp2_with fail
        refine CL.mono ?_
        rintro en w1 ⟨d, rfl, hd, hb1'⟩
        have o1 := o0.below hb1'
        have hb1 : Below w.heap.size w w1 := hb0.trans (hb1'.mono hb0.size)
        by_cases hsd : (d : Int) ≤ (s : Int)
        · have e1 : max (s : Int) (d : Int) = (s : Int) := by omega
          go_wp2
          go_roundg (gk - 1)
          case rel => exact ⟨j + 1, s, by have := HJ.out; omega, rfl, by go_num, by omega, o1, hb1⟩
          case measure => omega
        · have e1 : max (s : Int) (d : Int) = (d : Int) := by omega
          go_wp2
          go_roundg (gk - 1)
          case rel => exact ⟨j + 1, d, by have := HJ.out; omega, rfl, by go_num, by omega, o1, hb1⟩
          case measure => omega
      · have i1 : ¬ ((j : Int) < (m : Int)) := by omega
        go_wp2
        go_ret
        exact ⟨s + 1, by first | rfl | exact ret_i64 (by go_num) | exact ret_i64 (by omega), by rw [HT.out]; omega, hb0⟩
end Go.Proofs.YtepadfcjjcionaaGreatDoor
