/-
  CONTRACTS of the statements' own count of terms: how many, up to one more than so many.
-/
import Derived.Test.YtepadfcjjcionaaGreatDoorMw
import Derived.Deep.LoopGhost
namespace Go.Proofs.YtepadfcjjcionaaGreatDoor
open Go.RowKit
set_option linter.unusedVariables false

theorem ret_i64 {x y : Int} (h : x = y) : Ending.returned (.int .i64 x) = Ending.returned (.int .i64 y) := by rw [h]
def sumMin (top : Nat) : List Tm → Nat
  | [] => 0
  | t :: ts => min (cnt t) (top + 1) + sumMin top ts
theorem sumMin_le (top : Nat) : ∀ ts : List Tm, sumMin top ts ≤ cnt.cntL ts := by
  intro ts
  induction ts with
  | nil => simp [sumMin]
  | cons t ts ih => rw [sumMin, cnt.cntL]; omega
theorem sumMin_eq (top : Nat) : ∀ ts : List Tm, sumMin top ts ≤ top → sumMin top ts = cnt.cntL ts := by
  intro ts
  induction ts with
  | nil => intro _; simp [sumMin, cnt.cntL]
  | cons t ts ih => intro h; rw [sumMin] at h ⊢; rw [cnt.cntL, ← ih (by omega)]; omega
theorem cntL_take : ∀ (ts : List Tm) (j : Nat), cnt.cntL (ts.take j) ≤ cnt.cntL ts := by
  intro ts
  induction ts with
  | nil => intro j; simp
  | cons t ts ih =>
    intro j
    cases j with
    | zero => simp [cnt.cntL]
    | succ j => rw [List.take_succ_cons, cnt.cntL, cnt.cntL]; have := ih j; omega
theorem sumMin_take (top : Nat) : ∀ (ts : List Tm) (j : Nat) (u : Tm), ts[j]? = some u → sumMin top (ts.take (j + 1)) = sumMin top (ts.take j) + min (cnt u) (top + 1) := by
  intro ts
  induction ts with
  | nil => intro j u h; simp at h
  | cons t ts ih =>
    intro j u h
    cases j with
    | zero => cases h; simp [sumMin]
    | succ j =>
      rw [List.getElem?_cons_succ] at h
      rw [List.take_succ_cons, sumMin, ih j u h, List.take_succ_cons, sumMin]; omega

def SumRel1000 (w : World) (cells : Array Value) (ts : List Tm) (m g : Nat) (sv iv : Value) (wr : World) : Prop := ∃ j s : Nat, j + g = m ∧ sv = .int .i64 (s : Int) ∧ iv = .int .i64 (j : Int) ∧ s = 1 + sumMin 1000 (ts.take j) ∧ s ≤ 2002 ∧ Own wr w.heap.size cells 24 ∧ Below w.heap.size w wr
set_option maxRecDepth 100000 in
set_option maxHeartbeats 1000000 in
theorem terms1000_as : ∀ (N : Nat), ∀ (t : Tm), cnt t ≤ N → ∀ (w0 w : World) (op ty n : Int) (tx : ByteArray) (v : Value), KidsR w0 v t.ks → Below w0.heap.size w0 w → Calls Tryz.prog 6 #[.agg #[.int .u8 op, .int .i64 ty, .int .i64 n, .string tx, v], .int .i64 1000] w fun en w' => en = .returned (.int .i64 ((min (cnt t) 1001 : Nat) : Int)) ∧ Below w.heap.size w w' := by
  intro N
  induction N with
  | zero => intro t h; rw [cnt_parts] at h; omega
  | succ N ih =>
    intro t hN w0 w op ty n tx v hkd hbd
    have HI : Hid (∀ (t : Tm), cnt t ≤ N → ∀ (w0 w : World) (op ty n : Int) (tx : ByteArray) (v : Value), KidsR w0 v t.ks → Below w0.heap.size w0 w → Calls Tryz.prog 6 #[.agg #[.int .u8 op, .int .i64 ty, .int .i64 n, .string tx, v], .int .i64 1000] w fun en w' => en = .returned (.int .i64 ((min (cnt t) 1001 : Nat) : Int)) ∧ Below w.heap.size w w') := ih
    clear ih
    obtain ⟨ao, cap, rfl, hc1, hc2, _⟩ := id hkd
    obtain ⟨m, hm⟩ : ∃ m, t.ks.length = m := ⟨_, rfl⟩
    have HK : Hid (KidsR w0 (.slice ao m cap) t.ks) := by rw [← hm]; exact hkd
    have HM : Hid (t.ks.length = m) := hm
    have HB : Hid (Below w0.heap.size w0 w) := hbd
    have HC : Hid (cnt.cntL t.ks ≤ N) := by unfold Hid; rw [cnt_parts] at hN; omega
    have HT : Hid (cnt t = 1 + cnt.cntL t.ks) := cnt_parts t
    rw [hm] at hc1 ⊢
    have hmb : m ≤ 9223372036854775807 := by omega
    clear hkd hm hN hbd
    have o0 := Own.new w #[.int .u8 op, .int .i64 ty, .int .i64 n, .string tx, .slice ao m cap] 24
    have hb0 : Below w.heap.size w (w.alloc (.cells #[.int .u8 op, .int .i64 ty, .int .i64 n, .string tx, .slice ao m cap] 24)) := (Below.refl _ _).alloc (Nat.le_refl _) _
    go_enter Tryz.func6, Tryz.ntmps6
    go_wp2_with fail
    go_loopg [5, 6] m (fun g sv iv wr => SumRel1000 w #[.int .u8 op, .int .i64 ty, .int .i64 n, .string tx, .slice ao m cap] t.ks m g sv iv wr)
    case atStart => exact ⟨0, 1, by omega, rfl, rfl, by simp [sumMin], by omega, o0, hb0⟩
    case round =>
      clear o0 hb0
      obtain ⟨j, s, hj, rfl, rfl, hs, hs2, o0, hb0⟩ := hrel
      obtain ⟨p00, p01, p02, p03, p04, p05⟩ := o0.five
      have hl0 := o0.lt
      have HS : Hid (s = 1 + sumMin 1000 (t.ks.take j)) := hs
      have HJ : Hid (j + gk = m) := hj
      clear hs
      by_cases hlt : j < m
      · have i1 : (j : Int) < (m : Int) := by omega
        by_cases hst : s ≤ 1000
        · have i2 : (s : Int) ≤ 1000 := by omega
          obtain ⟨u, hu⟩ : ∃ u, t.ks[j]? = some u := ⟨t.ks[j]'(by rw [HM.out]; exact hlt), List.getElem?_eq_getElem _⟩
          obtain ⟨g2, q2, aj, cj, rfl, hg2, _, hW⟩ := kids_cells HK.out j u hu
          have hbr : Below w0.heap.size w0 wr := HB.out.trans ⟨hb0.os, hb0.tape, hb0.output, hb0.size, fun g hg => hb0.block g (Nat.lt_of_lt_of_le hg HB.out.size)⟩
          obtain ⟨f0, f1, f2, f3, f4, _⟩ := hW wr (fun k hk => hbr.block k hk)
          obtain ⟨_, _, _, _, _, hk1⟩ := hW w0 (fun _ _ => rfl)
          have hg2r : g2 < wr.heap.size := Nat.lt_of_lt_of_le hg2 hbr.size
          have hct : cnt u ≤ N := Nat.le_trans (cnt_get hu) HC.out
          obtain ⟨c, hc⟩ : ∃ c : Nat, min (cnt u) 1001 = c := ⟨_, rfl⟩
          have CL := HI.out u hct w0 wr u.op u.ty u.n u.tx _ hk1 hbr
          rw [hc] at CL
          have hcb : c ≤ 1001 := by omega
          have HCC : Hid (s + c = 1 + sumMin 1000 (t.ks.take (j + 1))) := by unfold Hid; rw [HS.out, sumMin_take 1000 t.ks j u hu, ← hc]; omega
          have hg1 : 1 ≤ gk := by have := HJ.out; omega
          clear hu hk1 hct hc hW hbr
          generalize u.op = uo at *
          generalize u.ty = ut at *
          generalize u.n = un at *
          generalize u.tx = ux at *
          generalize u.ks.length = ul at *
          go_wp2_with fail
          refine CL.mono ?_
          rintro en w1 ⟨rfl, hb1'⟩
          have o1 := o0.below hb1'
          have hb1 := hb0.trans (hb1'.mono hb0.size)
          clear CL hb1'
          go_wp2
          go_roundg (gk - 1)
          case rel => exact ⟨j + 1, s + c, by have := HJ.out; omega, by go_num, by go_num, HCC.out, by omega, o1, hb1⟩
          case measure => omega
        · have i2 : ¬ ((s : Int) ≤ 1000) := by omega
          have HE : Hid (min (cnt t) 1001 = 1001) := by
            unfold Hid
            have h1 := sumMin_le 1000 (t.ks.take j)
            have h2 := cntL_take t.ks j
            have h3 := HT.out
            have h4 := HS.out
            omega
          have i3 : min (s : Int) 1001 = 1001 := by omega
          go_wp2
          all_goals go_ret
          all_goals exact ⟨ret_i64 (by rw [HE.out]; first | rfl | omega | (simp; omega) | (split <;> omega)), hb0⟩
      · have i1 : ¬ ((j : Int) < (m : Int)) := by omega
        have HE : Hid (min (cnt t) 1001 = min s 1001) := by
          unfold Hid
          have htk : t.ks.take j = t.ks := List.take_of_length_le (by rw [HM.out]; omega)
          have h4 := HS.out
          rw [htk] at h4
          have h1 := sumMin_eq 1000 t.ks
          have h2 := sumMin_le 1000 t.ks
          have h3 := HT.out
          omega
        by_cases hst : s ≤ 1000
        · have i2 : (s : Int) < 1001 := by omega
          have i3 : min (s : Int) 1001 = (s : Int) := by omega
          go_wp2
          all_goals go_ret
          all_goals exact ⟨ret_i64 (by rw [HE.out]; first | omega | (simp; omega) | (split <;> omega)), hb0⟩
        · have i2 : ¬ ((s : Int) < 1001) := by omega
          have i3 : min (s : Int) 1001 = 1001 := by omega
          go_wp2
          all_goals go_ret
          all_goals exact ⟨ret_i64 (by rw [HE.out]; first | omega | (simp; omega) | (split <;> omega)), hb0⟩

def SumRel300 (w : World) (cells : Array Value) (ts : List Tm) (m g : Nat) (sv iv : Value) (wr : World) : Prop := ∃ j s : Nat, j + g = m ∧ sv = .int .i64 (s : Int) ∧ iv = .int .i64 (j : Int) ∧ s = 1 + sumMin 300 (ts.take j) ∧ s ≤ 602 ∧ Own wr w.heap.size cells 24 ∧ Below w.heap.size w wr
set_option maxRecDepth 100000 in
set_option maxHeartbeats 1000000 in
theorem terms300_as : ∀ (N : Nat), ∀ (t : Tm), cnt t ≤ N → ∀ (w0 w : World) (op ty n : Int) (tx : ByteArray) (v : Value), KidsR w0 v t.ks → Below w0.heap.size w0 w → Calls Tryz.prog 6 #[.agg #[.int .u8 op, .int .i64 ty, .int .i64 n, .string tx, v], .int .i64 300] w fun en w' => en = .returned (.int .i64 ((min (cnt t) 301 : Nat) : Int)) ∧ Below w.heap.size w w' := by
  intro N
  induction N with
  | zero => intro t h; rw [cnt_parts] at h; omega
  | succ N ih =>
    intro t hN w0 w op ty n tx v hkd hbd
    have HI : Hid (∀ (t : Tm), cnt t ≤ N → ∀ (w0 w : World) (op ty n : Int) (tx : ByteArray) (v : Value), KidsR w0 v t.ks → Below w0.heap.size w0 w → Calls Tryz.prog 6 #[.agg #[.int .u8 op, .int .i64 ty, .int .i64 n, .string tx, v], .int .i64 300] w fun en w' => en = .returned (.int .i64 ((min (cnt t) 301 : Nat) : Int)) ∧ Below w.heap.size w w') := ih
    clear ih
    obtain ⟨ao, cap, rfl, hc1, hc2, _⟩ := id hkd
    obtain ⟨m, hm⟩ : ∃ m, t.ks.length = m := ⟨_, rfl⟩
    have HK : Hid (KidsR w0 (.slice ao m cap) t.ks) := by rw [← hm]; exact hkd
    have HM : Hid (t.ks.length = m) := hm
    have HB : Hid (Below w0.heap.size w0 w) := hbd
    have HC : Hid (cnt.cntL t.ks ≤ N) := by unfold Hid; rw [cnt_parts] at hN; omega
    have HT : Hid (cnt t = 1 + cnt.cntL t.ks) := cnt_parts t
    rw [hm] at hc1 ⊢
    have hmb : m ≤ 9223372036854775807 := by omega
    clear hkd hm hN hbd
    have o0 := Own.new w #[.int .u8 op, .int .i64 ty, .int .i64 n, .string tx, .slice ao m cap] 24
    have hb0 : Below w.heap.size w (w.alloc (.cells #[.int .u8 op, .int .i64 ty, .int .i64 n, .string tx, .slice ao m cap] 24)) := (Below.refl _ _).alloc (Nat.le_refl _) _
    go_enter Tryz.func6, Tryz.ntmps6
    go_wp2_with fail
    go_loopg [5, 6] m (fun g sv iv wr => SumRel300 w #[.int .u8 op, .int .i64 ty, .int .i64 n, .string tx, .slice ao m cap] t.ks m g sv iv wr)
    case atStart => exact ⟨0, 1, by omega, rfl, rfl, by simp [sumMin], by omega, o0, hb0⟩
    case round =>
      clear o0 hb0
      obtain ⟨j, s, hj, rfl, rfl, hs, hs2, o0, hb0⟩ := hrel
      obtain ⟨p00, p01, p02, p03, p04, p05⟩ := o0.five
      have hl0 := o0.lt
      have HS : Hid (s = 1 + sumMin 300 (t.ks.take j)) := hs
      have HJ : Hid (j + gk = m) := hj
      clear hs
      by_cases hlt : j < m
      · have i1 : (j : Int) < (m : Int) := by omega
        by_cases hst : s ≤ 300
        · have i2 : (s : Int) ≤ 300 := by omega
          obtain ⟨u, hu⟩ : ∃ u, t.ks[j]? = some u := ⟨t.ks[j]'(by rw [HM.out]; exact hlt), List.getElem?_eq_getElem _⟩
          obtain ⟨g2, q2, aj, cj, rfl, hg2, _, hW⟩ := kids_cells HK.out j u hu
          have hbr : Below w0.heap.size w0 wr := HB.out.trans ⟨hb0.os, hb0.tape, hb0.output, hb0.size, fun g hg => hb0.block g (Nat.lt_of_lt_of_le hg HB.out.size)⟩
          obtain ⟨f0, f1, f2, f3, f4, _⟩ := hW wr (fun k hk => hbr.block k hk)
          obtain ⟨_, _, _, _, _, hk1⟩ := hW w0 (fun _ _ => rfl)
          have hg2r : g2 < wr.heap.size := Nat.lt_of_lt_of_le hg2 hbr.size
          have hct : cnt u ≤ N := Nat.le_trans (cnt_get hu) HC.out
          obtain ⟨c, hc⟩ : ∃ c : Nat, min (cnt u) 301 = c := ⟨_, rfl⟩
          have CL := HI.out u hct w0 wr u.op u.ty u.n u.tx _ hk1 hbr
          rw [hc] at CL
          have hcb : c ≤ 301 := by omega
          have HCC : Hid (s + c = 1 + sumMin 300 (t.ks.take (j + 1))) := by unfold Hid; rw [HS.out, sumMin_take 300 t.ks j u hu, ← hc]; omega
          have hg1 : 1 ≤ gk := by have := HJ.out; omega
          clear hu hk1 hct hc hW hbr
          generalize u.op = uo at *
          generalize u.ty = ut at *
          generalize u.n = un at *
          generalize u.tx = ux at *
          generalize u.ks.length = ul at *
          go_wp2_with fail
          refine CL.mono ?_
          rintro en w1 ⟨rfl, hb1'⟩
          have o1 := o0.below hb1'
          have hb1 := hb0.trans (hb1'.mono hb0.size)
          clear CL hb1'
          go_wp2
          go_roundg (gk - 1)
          case rel => exact ⟨j + 1, s + c, by have := HJ.out; omega, by go_num, by go_num, HCC.out, by omega, o1, hb1⟩
          case measure => omega
        · have i2 : ¬ ((s : Int) ≤ 300) := by omega
          have HE : Hid (min (cnt t) 301 = 301) := by
            unfold Hid
            have h1 := sumMin_le 300 (t.ks.take j)
            have h2 := cntL_take t.ks j
            have h3 := HT.out
            have h4 := HS.out
            omega
          have i3 : min (s : Int) 301 = 301 := by omega
          go_wp2
          all_goals go_ret
          all_goals exact ⟨ret_i64 (by rw [HE.out]; first | rfl | omega | (simp; omega) | (split <;> omega)), hb0⟩
      · have i1 : ¬ ((j : Int) < (m : Int)) := by omega
        have HE : Hid (min (cnt t) 301 = min s 301) := by
          unfold Hid
          have htk : t.ks.take j = t.ks := List.take_of_length_le (by rw [HM.out]; omega)
          have h4 := HS.out
          rw [htk] at h4
          have h1 := sumMin_eq 300 t.ks
          have h2 := sumMin_le 300 t.ks
          have h3 := HT.out
          omega
        by_cases hst : s ≤ 300
        · have i2 : (s : Int) < 301 := by omega
          have i3 : min (s : Int) 301 = (s : Int) := by omega
          go_wp2
          all_goals go_ret
          all_goals exact ⟨ret_i64 (by rw [HE.out]; first | omega | (simp; omega) | (split <;> omega)), hb0⟩
        · have i2 : ¬ ((s : Int) < 301) := by omega
          have i3 : min (s : Int) 301 = 301 := by omega
          go_wp2
          all_goals go_ret
          all_goals exact ⟨ret_i64 (by rw [HE.out]; first | omega | (simp; omega) | (split <;> omega)), hb0⟩

end Go.Proofs.YtepadfcjjcionaaGreatDoor
