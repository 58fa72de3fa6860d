import Derived.Test.YtmhnbklchnnbaaaGreatDoorRcKit
import Derived.Deep.LoopGhost
import Derived.Deep.RegionHeld3
set_option maxHeartbeats 4000000
set_option maxRecDepth 100000
namespace Go.Proofs.YtmhnbklchnnbaaaGreatDoor
open Go.RowKit
set_option linter.unusedVariables false
theorem ret_i64 {x y : Int} (h : x = y) : Ending.returned (.int .i64 x) = Ending.returned (.int .i64 y) := by rw [h]
theorem cnt_parts (t : Tree) : cntT t = 1 + cntT.cntL t.kids := by obtain ⟨k, a, x, n, ks⟩ := t; rw [cntT]
def sumMin (top : Nat) : List Tree → Nat
  | [] => 0
  | t :: ts => min (cntT t) (top + 1) + sumMin top ts
theorem sumMin_le (top : Nat) : ∀ ts : List Tree, sumMin top ts ≤ cntT.cntL ts := by
  intro ts
  induction ts with
  | nil => simp [sumMin]
  | cons t ts ih => rw [sumMin, cntT.cntL]; omega
theorem sumMin_eq (top : Nat) : ∀ ts : List Tree, sumMin top ts ≤ top → sumMin top ts = cntT.cntL ts := by
  intro ts
  induction ts with
  | nil => intro _; simp [sumMin, cntT.cntL]
  | cons t ts ih => intro h; rw [sumMin] at h ⊢; rw [cntT.cntL, ← ih (by omega)]; omega
theorem cntL_take : ∀ (ts : List Tree) (j : Nat), cntT.cntL (ts.take j) ≤ cntT.cntL ts := by
  intro ts
  induction ts with
  | nil => intro j; simp
  | cons t ts ih =>
    intro j
    cases j with
    | zero => simp [cntT.cntL]
    | succ j => rw [List.take_succ_cons, cntT.cntL, cntT.cntL]; have := ih j; omega
theorem sumMin_take (top : Nat) : ∀ (ts : List Tree) (j : Nat) (u : Tree), ts[j]? = some u → sumMin top (ts.take (j + 1)) = sumMin top (ts.take j) + min (cntT u) (top + 1) := by
  intro ts
  induction ts with
  | nil => intro j u h; simp at h
  | cons t ts ih =>
    intro j u h
    cases j with
    | zero => cases h; simp [sumMin]
    | succ j =>
      rw [List.getElem?_cons_succ] at h
      rw [List.take_succ_cons, sumMin, ih j u h, List.take_succ_cons, sumMin]; omega
def SumRelkNodes_as (w : World) (cells : Array Value) (ts : List Tree) (m g : Nat) (sv iv : Value) (wr : World) : Prop := ∃ j s : Nat, j + g = m ∧ sv = .int .i64 (s : Int) ∧ iv = .int .i64 (j : Int) ∧ s = 1 + sumMin 70000 (ts.take j) ∧ s ≤ 140002 ∧ Own wr w.heap.size cells 25 ∧ Below w.heap.size w wr
theorem kNodes_as : ∀ (N : Nat) (t : Tree), cntT t ≤ N → ∀ (w : World) (k a : Int) (b : ByteArray) (n : Int) (v : Value), NodeR w t k a b n v → Calls Tryz.prog 4 #[.agg #[.int .u8 k, .int .i64 a, .string b, .int .u64 n, v], .int .i64 70000] w fun en w' => en = .returned (.int .i64 ((min (cntT t) 70001 : Nat) : Int)) ∧ Below w.heap.size w w' := by
  intro N
  induction N with
  | zero => intro t h; obtain ⟨k, a, x, n, ks⟩ := t; rw [cntT] at h; omega
  | succ N ih =>
    intro t hN w k a b n v hNd
    have HI : Hid (∀ (t : Tree), cntT t ≤ N → ∀ (w : World) (k a : Int) (b : ByteArray) (n : Int) (v : Value), NodeR w t k a b n v → Calls Tryz.prog 4 #[.agg #[.int .u8 k, .int .i64 a, .string b, .int .u64 n, v], .int .i64 70000] w fun en w' => en = .returned (.int .i64 ((min (cntT t) 70001 : Nat) : Int)) ∧ Below w.heap.size w w') := ih
    clear ih
    obtain ⟨ao, cap, rfl, hc1, hc2, _⟩ := id hNd.2.2.2.2
    obtain ⟨m, hm⟩ : ∃ m, t.kids.length = m := ⟨_, rfl⟩
    have HK : Hid (KidsR w (.slice ao t.kids.length cap) t.kids) := hNd.2.2.2.2
    have HM : Hid (t.kids.length = m) := hm
    have HC : Hid (cntT.cntL t.kids ≤ N) := by unfold Hid; rw [cnt_parts] at hN; omega
    have HT : Hid (cntT t = 1 + cntT.cntL t.kids) := cnt_parts t
    rw [hm] at hc1 ⊢
    have hmb : m ≤ 9223372036854775807 := by omega
    clear hNd hm hN
    have o0 := Own.new w #[.int .u8 k, .int .i64 a, .string b, .int .u64 n, .slice ao m cap] 25
    have hb0 : Below w.heap.size w (w.alloc (.cells #[.int .u8 k, .int .i64 a, .string b, .int .u64 n, .slice ao m cap] 25)) := (Below.refl _ _).alloc (Nat.le_refl _) _
    go_enter Tryz.func4, Tryz.ntmps4
    go_wp2_with fail
    go_loopg [5, 6] m (fun g sv iv wr => SumRelkNodes_as w #[.int .u8 k, .int .i64 a, .string b, .int .u64 n, .slice ao m cap] t.kids m g sv iv wr)
    case atStart => exact ⟨0, 1, by omega, rfl, rfl, by simp [sumMin], by omega, o0, hb0⟩
    case round =>
      clear o0 hb0
      obtain ⟨j, s, hj, rfl, rfl, hs, hs2, o0, hb0⟩ := hrel
      obtain ⟨p00, p01, p02, p03, p04, p05⟩ := o0.five
      have hl0 := o0.lt
      have HS : Hid (s = 1 + sumMin 70000 (t.kids.take j)) := hs
      have HJ : Hid (j + gk = m) := hj
      clear hs
      by_cases hlt : j < m
      · have i1 : (j : Int) < (m : Int) := by omega
        by_cases hst : s ≤ 70000
        · have i2 : (s : Int) ≤ 70000 := by omega
          obtain ⟨u, hu⟩ : ∃ u, t.kids[j]? = some u := ⟨t.kids[j]'(by rw [HM.out]; exact hlt), List.getElem?_eq_getElem _⟩
          obtain ⟨g2, q2, aj, cj, rfl, hg2, f0, f1, f2, f3, f4, hk1⟩ := kids_cells HK.out hb0 j u hu
          have hg2r : g2 < wr.heap.size := Nat.lt_of_lt_of_le hg2 hb0.size
          have hct : cntT u ≤ N := Nat.le_trans (cnt_get hu) HC.out
          obtain ⟨c, hc⟩ : ∃ c : Nat, min (cntT u) 70001 = c := ⟨_, rfl⟩
          have CL := HI.out u hct wr _ _ _ _ _ ⟨rfl, rfl, rfl, rfl, hk1.below hb0⟩
          rw [hc] at CL
          have hcb : c ≤ 70001 := by omega
          have HCC : Hid (s + c = 1 + sumMin 70000 (t.kids.take (j + 1))) := by unfold Hid; rw [HS.out, sumMin_take 70000 t.kids j u hu, ← hc]; omega
          have hg1 : 1 ≤ gk := by have := HJ.out; omega
          clear hu hk1 hct hc
          go_wp2_with fail
          refine CL.mono ?_
          rintro en w1 ⟨rfl, hb1'⟩
          have o1 := o0.below hb1'
          have hb1 := hb0.trans (hb1'.mono hb0.size)
          clear CL hb1'
          go_wp2
          go_roundg (gk - 1)
          case rel => exact ⟨j + 1, s + c, by have := HJ.out; omega, by go_num, by go_num, HCC.out, by omega, o1, hb1⟩
          case measure => omega
        · have i2 : ¬ ((s : Int) ≤ 70000) := by omega
          have HE : Hid (min (cntT t) 70001 = 70001) := by
            unfold Hid
            have h1 := sumMin_le 70000 (t.kids.take j)
            have h2 := cntL_take t.kids j
            have h3 := HT.out
            have h4 := HS.out
            omega
          go_wp2
          all_goals go_ret
          all_goals exact ⟨ret_i64 (by rw [HE.out]; first | rfl | omega | (simp; omega) | (split <;> omega)), hb0⟩
      · have i1 : ¬ ((j : Int) < (m : Int)) := by omega
        have HE : Hid (min (cntT t) 70001 = min s 70001) := by
          unfold Hid
          have htk : t.kids.take j = t.kids := List.take_of_length_le (by rw [HM.out]; omega)
          have h4 := HS.out
          rw [htk] at h4
          have h1 := sumMin_eq 70000 t.kids
          have h2 := sumMin_le 70000 t.kids
          have h3 := HT.out
          omega
        by_cases hst : s ≤ 70000
        · have i2 : (s : Int) < 70001 := by omega
          have i3 : min (s : Int) 70001 = (s : Int) := by omega
          go_wp2
          all_goals go_ret
          all_goals exact ⟨ret_i64 (by rw [HE.out]; first | omega | (simp; omega) | (split <;> omega)), hb0⟩
        · have i2 : ¬ ((s : Int) < 70001) := by omega
          have i3 : min (s : Int) 70001 = 70001 := by omega
          go_wp2
          all_goals go_ret
          all_goals exact ⟨ret_i64 (by rw [HE.out]; first | omega | (simp; omega) | (split <;> omega)), hb0⟩
def SumRelzcnt_as (w : World) (cells : Array Value) (ts : List Tree) (m g : Nat) (sv iv : Value) (wr : World) : Prop := ∃ j s : Nat, j + g = m ∧ sv = .int .i64 (s : Int) ∧ iv = .int .i64 (j : Int) ∧ s = 1 + sumMin 65536 (ts.take j) ∧ s ≤ 131074 ∧ Own wr w.heap.size cells 25 ∧ Below w.heap.size w wr
theorem zcnt_as : ∀ (N : Nat) (t : Tree), cntT t ≤ N → ∀ (w : World) (k a : Int) (b : ByteArray) (n : Int) (v : Value), NodeR w t k a b n v → Calls Tryz.prog 13 #[.agg #[.int .u8 k, .int .i64 a, .string b, .int .u64 n, v]] w fun en w' => en = .returned (.int .i64 ((min (cntT t) 65537 : Nat) : Int)) ∧ Below w.heap.size w w' := by
  intro N
  induction N with
  | zero => intro t h; obtain ⟨k, a, x, n, ks⟩ := t; rw [cntT] at h; omega
  | succ N ih =>
    intro t hN w k a b n v hNd
    have HI : Hid (∀ (t : Tree), cntT t ≤ N → ∀ (w : World) (k a : Int) (b : ByteArray) (n : Int) (v : Value), NodeR w t k a b n v → Calls Tryz.prog 13 #[.agg #[.int .u8 k, .int .i64 a, .string b, .int .u64 n, v]] w fun en w' => en = .returned (.int .i64 ((min (cntT t) 65537 : Nat) : Int)) ∧ Below w.heap.size w w') := ih
    clear ih
    obtain ⟨ao, cap, rfl, hc1, hc2, _⟩ := id hNd.2.2.2.2
    obtain ⟨m, hm⟩ : ∃ m, t.kids.length = m := ⟨_, rfl⟩
    have HK : Hid (KidsR w (.slice ao t.kids.length cap) t.kids) := hNd.2.2.2.2
    have HM : Hid (t.kids.length = m) := hm
    have HC : Hid (cntT.cntL t.kids ≤ N) := by unfold Hid; rw [cnt_parts] at hN; omega
    have HT : Hid (cntT t = 1 + cntT.cntL t.kids) := cnt_parts t
    rw [hm] at hc1 ⊢
    have hmb : m ≤ 9223372036854775807 := by omega
    clear hNd hm hN
    have o0 := Own.new w #[.int .u8 k, .int .i64 a, .string b, .int .u64 n, .slice ao m cap] 25
    have hb0 : Below w.heap.size w (w.alloc (.cells #[.int .u8 k, .int .i64 a, .string b, .int .u64 n, .slice ao m cap] 25)) := (Below.refl _ _).alloc (Nat.le_refl _) _
    go_enter Tryz.func13, Tryz.ntmps13
    go_wp2_with fail
    go_loopg [3, 4] m (fun g sv iv wr => SumRelzcnt_as w #[.int .u8 k, .int .i64 a, .string b, .int .u64 n, .slice ao m cap] t.kids m g sv iv wr)
    case atStart => exact ⟨0, 1, by omega, rfl, rfl, by simp [sumMin], by omega, o0, hb0⟩
    case round =>
      clear o0 hb0
      obtain ⟨j, s, hj, rfl, rfl, hs, hs2, o0, hb0⟩ := hrel
      obtain ⟨p00, p01, p02, p03, p04, p05⟩ := o0.five
      have hl0 := o0.lt
      have HS : Hid (s = 1 + sumMin 65536 (t.kids.take j)) := hs
      have HJ : Hid (j + gk = m) := hj
      clear hs
      by_cases hlt : j < m
      · have i1 : (j : Int) < (m : Int) := by omega
        by_cases hst : s ≤ 65536
        · have i2 : (s : Int) ≤ 65536 := by omega
          obtain ⟨u, hu⟩ : ∃ u, t.kids[j]? = some u := ⟨t.kids[j]'(by rw [HM.out]; exact hlt), List.getElem?_eq_getElem _⟩
          obtain ⟨g2, q2, aj, cj, rfl, hg2, f0, f1, f2, f3, f4, hk1⟩ := kids_cells HK.out hb0 j u hu
          have hg2r : g2 < wr.heap.size := Nat.lt_of_lt_of_le hg2 hb0.size
          have hct : cntT u ≤ N := Nat.le_trans (cnt_get hu) HC.out
          obtain ⟨c, hc⟩ : ∃ c : Nat, min (cntT u) 65537 = c := ⟨_, rfl⟩
          have CL := HI.out u hct wr _ _ _ _ _ ⟨rfl, rfl, rfl, rfl, hk1.below hb0⟩
          rw [hc] at CL
          have hcb : c ≤ 65537 := by omega
          have HCC : Hid (s + c = 1 + sumMin 65536 (t.kids.take (j + 1))) := by unfold Hid; rw [HS.out, sumMin_take 65536 t.kids j u hu, ← hc]; omega
          have hg1 : 1 ≤ gk := by have := HJ.out; omega
          clear hu hk1 hct hc
          go_wp2_with fail
          refine CL.mono ?_
          rintro en w1 ⟨rfl, hb1'⟩
          have o1 := o0.below hb1'
          have hb1 := hb0.trans (hb1'.mono hb0.size)
          clear CL hb1'
          go_wp2
          go_roundg (gk - 1)
          case rel => exact ⟨j + 1, s + c, by have := HJ.out; omega, by go_num, by go_num, HCC.out, by omega, o1, hb1⟩
          case measure => omega
        · have i2 : ¬ ((s : Int) ≤ 65536) := by omega
          have HE : Hid (min (cntT t) 65537 = 65537) := by
            unfold Hid
            have h1 := sumMin_le 65536 (t.kids.take j)
            have h2 := cntL_take t.kids j
            have h3 := HT.out
            have h4 := HS.out
            omega
          go_wp2
          all_goals go_ret
          all_goals exact ⟨ret_i64 (by rw [HE.out]; first | rfl | omega | (simp; omega) | (split <;> omega)), hb0⟩
      · have i1 : ¬ ((j : Int) < (m : Int)) := by omega
        have HE : Hid (min (cntT t) 65537 = min s 65537) := by
          unfold Hid
          have htk : t.kids.take j = t.kids := List.take_of_length_le (by rw [HM.out]; omega)
          have h4 := HS.out
          rw [htk] at h4
          have h1 := sumMin_eq 65536 t.kids
          have h2 := sumMin_le 65536 t.kids
          have h3 := HT.out
          omega
        by_cases hst : s ≤ 65536
        · have i2 : (s : Int) < 65537 := by omega
          have i3 : min (s : Int) 65537 = (s : Int) := by omega
          go_wp2
          all_goals go_ret
          all_goals exact ⟨ret_i64 (by rw [HE.out]; first | omega | (simp; omega) | (split <;> omega)), hb0⟩
        · have i2 : ¬ ((s : Int) < 65537) := by omega
          have i3 : min (s : Int) 65537 = 65537 := by omega
          go_wp2
          all_goals go_ret
          all_goals exact ⟨ret_i64 (by rw [HE.out]; first | omega | (simp; omega) | (split <;> omega)), hb0⟩
def mkC : List Value := [.int .u8 177, .int .i64 0, .string ⟨#[]⟩, .int .u64 0, .slice none 0 0]
def LentC (w : World) (Q : Nat → Prop) : List Tree → List Value → Prop
  | [], xs => xs = []
  | ⟨k, a, tx, n, ks⟩ :: ts, xs => ∃ g cap cur ys rest, xs = .int .u8 (k : Int) :: .int .i64 a :: .string (strN tx) :: .int .u64 (n : Int) :: .slice (some ⟨g, 0, none⟩) ks.length cap :: rest ∧ Q g ∧ ks.length + 2 ≤ cap ∧ cap ≤ 9223372036854775807 ∧
      w.heap[g]? = some (.cells cur 25 (0, 0)) ∧ cur.toList.take ((ks.length + 2) * 5) = ys ++ (mkC ++ mkC) ∧ LentC w Q ks ys ∧ LentC w Q ts rest
theorem lentC_cons {w : World} {Q : Nat → Prop} {k : Nat} {a : Int} {tx : List Nat} {n : Nat} {ks ts : List Tree} {xs : List Value} : LentC w Q (⟨k, a, tx, n, ks⟩ :: ts) xs ↔ ∃ g cap cur ys rest, xs = .int .u8 (k : Int) :: .int .i64 a :: .string (strN tx) :: .int .u64 (n : Int) :: .slice (some ⟨g, 0, none⟩) ks.length cap :: rest ∧ Q g ∧ ks.length + 2 ≤ cap ∧ cap ≤ 9223372036854775807 ∧
      w.heap[g]? = some (.cells cur 25 (0, 0)) ∧ cur.toList.take ((ks.length + 2) * 5) = ys ++ (mkC ++ mkC) ∧ LentC w Q ks ys ∧ LentC w Q ts rest := by rw [LentC]
def LentK (w : World) (Q : Nat → Prop) (v : Value) (ks : List Tree) : Prop := ∃ g cap cur ys, v = .slice (some ⟨g, 0, none⟩) ks.length cap ∧ Q g ∧ ks.length + 2 ≤ cap ∧ cap ≤ 9223372036854775807 ∧ w.heap[g]? = some (.cells cur 25 (0, 0)) ∧ cur.toList.take ((ks.length + 2) * 5) = ys ++ (mkC ++ mkC) ∧ LentC w Q ks ys
theorem LentC.on {w w' : World} {Q Q' : Nat → Prop} (h : ∀ g, Q g → w'.heap[g]? = w.heap[g]? ∧ Q' g) : ∀ (ts : List Tree) (xs : List Value), LentC w Q ts xs → LentC w' Q' ts xs := by
  intro ts
  induction ts using treeRec with
  | h0 => intro xs hx; rw [LentC] at hx ⊢; exact hx
  | h1 k a t n ks ts ih1 ih2 =>
    intro xs hx
    rw [lentC_cons] at hx ⊢
    obtain ⟨g, cap, cur, ys, rest, rfl, hq, h1, h2, h3, h4, h5, h6⟩ := hx
    exact ⟨g, cap, cur, ys, rest, rfl, (h g hq).2, h1, h2, (h g hq).1.trans h3, h4, ih1 ys h5, ih2 rest h6⟩
theorem LentK.on {w w' : World} {Q Q' : Nat → Prop} (h : ∀ g, Q g → w'.heap[g]? = w.heap[g]? ∧ Q' g) {v : Value} {ks : List Tree} (hk : LentK w Q v ks) : LentK w' Q' v ks := by
  obtain ⟨g, cap, cur, ys, rfl, hq, h1, h2, h3, h4, h5⟩ := hk
  exact ⟨g, cap, cur, ys, rfl, (h g hq).2, h1, h2, (h g hq).1.trans h3, h4, LentC.on h _ _ h5⟩
theorem LentC.length {w : World} {Q : Nat → Prop} : ∀ (ts : List Tree) (xs : List Value), LentC w Q ts xs → xs.length = ts.length * 5 := by
  intro ts
  induction ts with
  | nil => intro xs h; rw [LentC] at h; subst h; rfl
  | cons t ts ih =>
    intro xs h
    obtain ⟨k, a, tx, n, ks⟩ := t
    rw [lentC_cons] at h
    obtain ⟨g, cap, cur, ys, rest, rfl, _, _, _, _, _, _, h6⟩ := h
    have := ih rest h6
    simp only [List.length_cons]; omega
theorem LentC.snoc {w : World} {Q : Nat → Prop} {t : Tree} {v : Value} (hk : LentK w Q v t.kids) : ∀ (ts : List Tree) (xs : List Value), LentC w Q ts xs → LentC w Q (ts ++ [t]) (xs ++ [.int .u8 (t.kind : Int), .int .i64 t.at_, .string (strN t.text), .int .u64 (t.n : Int), v]) := by
  intro ts
  induction ts with
  | nil =>
    intro xs h
    rw [LentC] at h; subst h
    obtain ⟨k, a, tx, n, ks⟩ := t
    obtain ⟨g, cap, cur, ys, rfl, hq, h1, h2, h3, h4, h5⟩ := hk
    simp only [List.nil_append]
    rw [lentC_cons]
    exact ⟨g, cap, cur, ys, [], rfl, hq, h1, h2, h3, h4, h5, by rw [LentC]⟩
  | cons t0 ts ih =>
    intro xs h
    obtain ⟨k, a, tx, n, ks⟩ := t0
    rw [lentC_cons] at h
    obtain ⟨g, cap, cur, ys, rest, rfl, hq, h1, h2, h3, h4, h5, h6⟩ := h
    rw [List.cons_append, lentC_cons]
    exact ⟨g, cap, cur, ys, _, rfl, hq, h1, h2, h3, h4, h5, ih rest h6⟩
theorem take_one_of {α : Type} {l : List α} {j : Nat} {x : α} (h : l[j]? = some x) : l.take (j + 1) = l.take j ++ [x] := by rw [List.take_add_one, h]; rfl
theorem cntL_len : ∀ ts : List Tree, ts.length ≤ cntT.cntL ts := by
  intro ts
  induction ts with
  | nil => simp
  | cons t ts ih => obtain ⟨k, a, x, n, ks⟩ := t; rw [cntT.cntL, cntT, List.length_cons]; omega
theorem lentC_rd {w : World} {Q : Nat → Prop} : ∀ (ts : List Tree) (xs : List Value), LentC w Q ts xs → ∀ (cs : Array Value) (o : Nat), (∀ j, j < xs.length → cs[o + j]? = xs[j]?) → CellsR w ts cs o := by
  intro ts
  induction ts using treeRec with
  | h0 => intro xs h cs o hc; simp [CellsR]
  | h1 k a t n ks ts ih1 ih2 =>
    intro xs h cs o hc
    rw [lentC_cons] at h
    obtain ⟨g, cap, cur, ys, rest, rfl, hq, h1, h2, h3, h4, h5, h6⟩ := h
    rw [cellsR_cons]
    have c : ∀ j, j < 5 → cs[o + j]? = (Value.int .u8 (k : Int) :: .int .i64 a :: .string (strN t) :: .int .u64 (n : Int) :: .slice (some ⟨g, 0, none⟩) ks.length cap :: rest)[j]? := fun j hj => hc j (by simp only [List.length_cons]; omega)
    refine ⟨⟨_, cap, c 0 (by omega), c 1 (by omega), c 2 (by omega), c 3 (by omega), c 4 (by omega), by omega, h2, .inr ⟨g, 0, cur, 25, (0, 0), rfl, h3, ih1 ys h5 cur 0 fun j hj => ?_⟩⟩, ih2 rest h6 cs (o + 5) fun j hj => ?_⟩
    · have hl := LentC.length _ _ h5
      have e : (cur.toList.take ((ks.length + 2) * 5))[j]? = ys[j]? := by rw [h4, List.getElem?_append_left hj]
      rw [List.getElem?_take, if_pos (by omega), Array.getElem?_toList] at e
      rw [Nat.zero_add]; exact e
    · have := hc (5 + j) (by simp only [List.length_cons]; omega)
      rw [show o + 5 + j = o + (5 + j) by omega, this, show 5 + j = j + 5 by omega]
      rfl
theorem LentK.rd {w : World} {Q : Nat → Prop} {v : Value} {ks : List Tree} (h : LentK w Q v ks) : KidsR w v ks := by
  obtain ⟨g, cap, cur, ys, rfl, hq, h1, h2, h3, h4, h5⟩ := h
  refine ⟨_, cap, rfl, by omega, h2, .inr ⟨g, 0, cur, 25, (0, 0), rfl, h3, lentC_rd _ _ h5 cur 0 fun j hj => ?_⟩⟩
  have hl := LentC.length _ _ h5
  have e : (cur.toList.take ((ks.length + 2) * 5))[j]? = ys[j]? := by rw [h4, List.getElem?_append_left hj]
  rw [List.getElem?_take, if_pos (by omega), Array.getElem?_toList] at e
  rw [Nat.zero_add]; exact e
theorem lentC_at {w : World} {Q : Nat → Prop} : ∀ (ts : List Tree) (xs : List Value), LentC w Q ts xs → ∀ (i : Nat) (t : Tree), ts[i]? = some t → ∃ v, xs[i * 5]? = some (.int .u8 (t.kind : Int)) ∧ xs[i * 5 + 1]? = some (.int .i64 t.at_) ∧ xs[i * 5 + 2]? = some (.string (strN t.text)) ∧ xs[i * 5 + 3]? = some (.int .u64 (t.n : Int)) ∧ xs[i * 5 + 4]? = some v ∧ LentK w Q v t.kids := by
  intro ts
  induction ts with
  | nil => intro xs _ i t h; simp at h
  | cons t0 ts ih =>
    intro xs h i t ht
    obtain ⟨k, a, tx, n, ks⟩ := t0
    rw [lentC_cons] at h
    obtain ⟨g, cap, cur, ys, rest, rfl, hq, h1, h2, h3, h4, h5, h6⟩ := h
    cases i with
    | zero =>
      cases ht
      exact ⟨_, rfl, rfl, rfl, rfl, rfl, g, cap, cur, ys, rfl, hq, h1, h2, h3, h4, h5⟩
    | succ i =>
      obtain ⟨v, d0, d1, d2, d3, d4, d5⟩ := ih rest h6 i t (by simpa using ht)
      refine ⟨v, ?_, ?_, ?_, ?_, ?_, d5⟩
      all_goals rw [show (i + 1) * 5 = i * 5 + 5 by omega]
      · exact d0
      · exact d1
      · exact d2
      · exact d3
      · exact d4
theorem LentK.cells {w wr : World} {Q : Nat → Prop} {v : Value} {ks : List Tree} (h : LentK w Q v ks) (hk : ∀ g, Q g → wr.heap[g]? = w.heap[g]? ∧ g < wr.heap.size) : ∃ g cap, v = .slice (some ⟨g, 0, none⟩) ks.length cap ∧ ks.length + 2 ≤ cap ∧ cap ≤ 9223372036854775807 ∧ g < wr.heap.size ∧
    (∀ (i : Nat) (t : Tree), ks[i]? = some t → ∃ u, wr.cell? ⟨g, i * 5, none⟩ = some (.int .u8 (t.kind : Int)) ∧ wr.cell? ⟨g, i * 5 + 1, none⟩ = some (.int .i64 t.at_) ∧ wr.cell? ⟨g, i * 5 + 2, none⟩ = some (.string (strN t.text)) ∧ wr.cell? ⟨g, i * 5 + 3, none⟩ = some (.int .u64 (t.n : Int)) ∧ wr.cell? ⟨g, i * 5 + 4, none⟩ = some u ∧ LentK w Q u t.kids) ∧
    (∀ (i : Nat), ks.length ≤ i → i < ks.length + 2 → wr.cell? ⟨g, i * 5, none⟩ = some (.int .u8 177) ∧ wr.cell? ⟨g, i * 5 + 1, none⟩ = some (.int .i64 0) ∧ wr.cell? ⟨g, i * 5 + 2, none⟩ = some (.string ⟨#[]⟩) ∧ wr.cell? ⟨g, i * 5 + 3, none⟩ = some (.int .u64 0) ∧ wr.cell? ⟨g, i * 5 + 4, none⟩ = some (.slice none 0 0)) := by
  obtain ⟨g, cap, cur, ys, rfl, hq, h1, h2, h3, h4, h5⟩ := h
  have hg := (hk g hq).1.trans h3
  have hl := LentC.length _ _ h5
  have ec : ∀ j, j < (ks.length + 2) * 5 → wr.cell? ⟨g, j, none⟩ = (ys ++ (mkC ++ mkC))[j]? := by
    intro j hj
    rw [cell_of_row _ g j _ _ _ hg, ← h4, List.getElem?_take, if_pos hj, Array.getElem?_toList]
  refine ⟨g, cap, rfl, h1, h2, (hk g hq).2, fun i t ht => ?_, fun i hi1 hi2 => ?_⟩
  · have hil : i < ks.length := (List.getElem?_eq_some_iff.1 ht).1
    obtain ⟨u, d0, d1, d2, d3, d4, d5⟩ := lentC_at _ _ h5 i t ht
    refine ⟨u, ?_, ?_, ?_, ?_, ?_, d5⟩
    all_goals rw [ec _ (by omega), List.getElem?_append_left (by omega)]
    all_goals assumption
  · have e : ∀ c, c < 5 → (ys ++ (mkC ++ mkC))[i * 5 + c]? = mkC[c]? := by
      intro c hc
      rw [List.getElem?_append_right (by omega)]
      by_cases h0 : i = ks.length
      · subst h0
        rw [List.getElem?_append_left (by rw [hl]; simp [mkC]; omega)]
        congr 1; omega
      · have : i = ks.length + 1 := by omega
        subst this
        rw [List.getElem?_append_right (by rw [hl]; simp [mkC]; omega)]
        congr 1; rw [hl]; simp [mkC]; omega
    exact ⟨(ec _ (by omega)).trans (e 0 (by omega)), (ec _ (by omega)).trans (e 1 (by omega)), (ec _ (by omega)).trans (e 2 (by omega)), (ec _ (by omega)).trans (e 3 (by omega)), (ec _ (by omega)).trans (e 4 (by omega))⟩
set_option linter.unusedSimpArgs false
theorem core_less (r : Int) (t : Tree) (h2 : ¬ ((kidsI t.kind).1 ≤ (t.kids.length : Int))) : (takesI r t.kind && coreT r t) = false := by
  rw [coreT, decide_eq_false h2]; simp
theorem split_last {l : List Tree} {m : Nat} (h : l.length = m) (h2 : 2 ≤ m) : ∃ (M : Nat) (ks : List Tree) (z : Tree), l = ks ++ [z] ∧ ks.length = M ∧ m = M + 1 := by
  rcases List.eq_nil_or_concat l with rfl | ⟨ks, z, rfl⟩
  · simp at h; omega
  · exact ⟨ks.length, ks, z, by simp, rfl, by simp at h; omega⟩
theorem validL_role (r r' : Int) (k : Nat) (hk : k ≠ 48 ∧ k ≠ 49 ∧ k ≠ 55) (m : Nat) : ∀ (ks : List Tree) (i : Nat), validT.validL r k m i ks = validT.validL r' k m i ks := by
  have h48 : ((k : Int) == 48) = false := by simp; omega
  have h49 : ((k : Int) == 49) = false := by simp; omega
  have h55 : ((k : Int) == 55) = false := by simp; omega
  have ha : ∀ i : Int, asksI r k m i = asksI r' k m i := by
    intro i
    unfold asksI
    simp only [h48, h49, h55, Bool.or_self, Bool.false_eq_true, if_false]
  intro ks
  induction ks with
  | nil => intro i; simp [validT.validL]
  | cons t ks ih => intro i; rw [validT.validL, validT.validL, ih, ha]
theorem coreT_role (r r' : Int) (t : Tree) (hk : t.kind ≠ 48 ∧ t.kind ≠ 49 ∧ t.kind ≠ 55) : coreT r t = coreT r' t := by
  unfold coreT; rw [validL_role r r' t.kind hk]
theorem m11 {a : Int} {x : List Nat} {n : Nat} {ks : List Tree} {z : Tree} (h1 : 1 ≤ ks.length) (hl : ks.length + 1 ≤ 9223372036854775807) : vR 11 ⟨18, a, x, n, ks ++ [z]⟩ = (bareB x n && (ks.all (vR 10) && vR 4 z)) := by
  rw [vR_11, valid_core 12]
  simp only [coreT]
  rw [show vR 10 = validT 14 from rfl, vL_last 12 18 _ 14 6 ks 0 z (by simp) (fun j hj => by simp at hj; simp [asksI, eitherI]; omega) (by simp [asksI, eitherI])]
  have hl2 : (ks.length : Int) + 1 ≤ 9223372036854775807 := by omega
  have hl3 : (2 : Int) ≤ (ks.length : Int) + 1 := by omega
  simp [vR_4, takesI, kidsI, textI, numI, bareB, hl2, hl3]
  try grind
theorem m17 {a : Int} {x : List Nat} {n : Nat} {ks : List Tree} {z : Tree} (h1 : 1 ≤ ks.length) (hl : ks.length + 1 ≤ 9223372036854775807) : vR 17 ⟨11, a, x, n, ks ++ [z]⟩ = (bareB x n && (ks.all (vR 13) && vR 2 z)) := by
  rw [vR_17, valid_core 7]
  simp only [coreT]
  rw [show vR 13 = validT 16 from rfl, vL_last 7 11 _ 16 21 ks 0 z (by simp) (fun j hj => by simp at hj; simp [asksI, eitherI]; omega) (by simp [asksI, eitherI])]
  have hl2 : (ks.length : Int) + 1 ≤ 9223372036854775807 := by omega
  have hl3 : (2 : Int) ≤ (ks.length : Int) + 1 := by omega
  simp [vR_2, takesI, isStmtI, kidsI, textI, numI, bareB, hl2, hl3]
  try grind
theorem bdrew {B : Nat} {w w1 : World} (h : Below B w w1) : Below B w w1.drew := ⟨h.os, h.tape, h.output, h.size, h.block⟩
theorem CTop (b : ByteArray) (T : Nat) (hT : topN (bytesN b) = T) (W : World) : Calls Tryz.prog 32 #[.string b] W fun en w' => en = .returned (.int .u64 (T : Int)) ∧ Below W.heap.size W w' := (rTop_as b T hT W).mono fun e w' ⟨h1, h2⟩ => ⟨h1, h2 ▸ Below.refl _ _⟩
theorem CAmong (b : ByteArray) (xs : List ByteArray) (n : Nat) (hn : xs.length = n) (hl : n ≤ 100) (q : Bool) (hq : (xs.any fun x => x.toList == b.toList) = q) (W : World) (g : Nat) (hs : StrsIn W g xs) : Calls Tryz.prog 23 #[.string b, .slice (some ⟨g, 0, none⟩) n n] W fun en w' => en = .returned (.bool q) ∧ Below W.heap.size W w' := (zamong_as W b g xs hs n hn hl q hq).mono fun e w' ⟨h1, h2⟩ => ⟨h1, h2 ▸ Below.refl _ _⟩
theorem CInts (W : World) : Calls Tryz.prog 31 #[] W fun en w' => ∃ g, en = .returned (.slice (some ⟨g, 0, none⟩) 3 3) ∧ StrsIn w' g intXs ∧ Below W.heap.size W w' := (zints_as W).mono fun e w' ⟨h1, h2, h3⟩ => ⟨_, h1, h2, h3⟩
theorem CTypes (W : World) : Calls Tryz.prog 24 #[] W fun en w' => ∃ g, en = .returned (.slice (some ⟨g, 0, none⟩) 5 5) ∧ StrsIn w' g typeXs ∧ Below W.heap.size W w' := (ztypes_as W).mono fun e w' ⟨h1, h2, h3⟩ => ⟨_, h1, h2, h3⟩
theorem Fl.bn {w : World} {t : Tree} {k a : Int} {b : ByteArray} {n : Int} {ao : Option Addr} {m cap : Nat} (h : Fl w t k a b n ao m cap) : bytesN b = t.text := by rw [h.txt.1]; exact bytesN_strN _ h.txt.2.1
theorem Fl.name {w : World} {t : Tree} {k a : Int} {b : ByteArray} {n : Int} {ao : Option Addr} {m cap : Nat} (h : Fl w t k a b n ao m cap) (q : Bool) (hq : nameB t.text = q) (W : World) : Calls Tryz.prog 25 #[.string b] W fun en w' => en = .returned (.bool q) ∧ Below W.heap.size W w' := rname_big b q (by rw [← bytesN_length b, h.bn]; exact h.txt.2.2) (by rw [h.bn]; exact hq) W
end Go.Proofs.YtmhnbklchnnbaaaGreatDoor
