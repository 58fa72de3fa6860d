import Derived.Test.YtmhnbklchnnbaaaGreatDoorRcMath2
import Derived.Test.YtmhnbklchnnbaaaGreatDoorJLow
import Derived.Test.YtmhnbklchnnbaaaGreatDoorQ17
set_option maxHeartbeats 1000000
set_option maxRecDepth 100000
namespace Go.Proofs.YtmhnbklchnnbaaaGreatDoor
open Go.RowKit
set_option linter.unusedVariables false
abbrev TxtIs (b : ByteArray) (x : List Nat) : Prop := b = strN x ∧ (∀ c ∈ x, c < 256) ∧ x.length ≤ 9223372036854775807
theorem txt_lit (b : ByteArray) (x : List Nat) (HX : Hid (TxtIs b x)) (y : ByteArray) : (b.toList == y.data.toList) = (x == bytesN y) := by
  rw [HX.out.1, ← ByteArray.toList_eq]; exact str_same _ HX.out.2.1 y
theorem zbare_as (w : World) (k a n : Int) (b : ByteArray) (v : Value) (hv : v.oneCell' = true) (x : List Nat) (HX : Hid (TxtIs b x)) : Calls Tryz.prog 26 #[.agg #[.int .u8 k, .int .i64 a, .string b, .int .u64 n, v]] w fun en w' => en = .returned (.bool (bareB x n)) ∧ Below w.heap.size w w' := by
  have e4 : (b.toList == []) = (x == []) := txt_lit b x HX ⟨#[]⟩
  obtain ⟨q, hq⟩ : ∃ q, (x == []) = q := ⟨_, rfl⟩
  rw [hq] at e4
  have HQ : Hid (bareB x n = (q && n == 0)) := by unfold Hid bareB; rw [hq]
  clear hq
  go_enter Tryz.func26, Tryz.ntmps26
  cases q with
  | true =>
    go_wp2
    all_goals go_ret
    all_goals exact ⟨ret_bool (by rw [HQ.out]; simp [*]), (Below.refl _ _).alloc (Nat.le_refl _) _⟩
  | false =>
    go_wp2
    all_goals go_ret
    all_goals exact ⟨ret_bool (by rw [HQ.out]; simp [*]), (Below.refl _ _).alloc (Nat.le_refl _) _⟩
theorem znamed_as (w : World) (k a n : Int) (b : ByteArray) (v : Value) (hv : v.oneCell' = true) (f : Bool) (x : List Nat) (HX : Hid (TxtIs b x)) : Calls Tryz.prog 30 #[.agg #[.int .u8 k, .int .i64 a, .string b, .int .u64 n, v], .bool f] w fun en w' => en = .returned (.bool (namedB x n f)) ∧ Below w.heap.size w w' := by
  have e4 : (b.toList == []) = (x == []) := txt_lit b x HX ⟨#[]⟩
  have hbn : bytesN b = x := by rw [HX.out.1]; exact bytesN_strN _ HX.out.2.1
  have hsz : b.size ≤ 9223372036854775807 := by rw [← bytesN_length b, hbn]; exact HX.out.2.2
  obtain ⟨q, hq⟩ : ∃ q, (x == []) = q := ⟨_, rfl⟩
  obtain ⟨qn, hqn⟩ : ∃ q, nameB x = q := ⟨_, rfl⟩
  rw [hq] at e4
  have HN : Hid (nameB (bytesN b) = qn) := by unfold Hid; rw [hbn]; exact hqn
  have CN : ∀ W : World, Calls Tryz.prog 25 #[.string b] W fun en w' => en = .returned (.bool qn) ∧ Below W.heap.size W w' := fun W => rname_big b qn hsz HN.out W
  have HQ : Hid (namedB x n f = (n == 0 && (qn || (f && q)))) := by unfold Hid namedB; rw [hq, hqn]
  have o1 := Own.new w #[.int .u8 k, .int .i64 a, .string b, .int .u64 n, v] 25
  have hb1 : Below w.heap.size w (w.alloc (.cells #[.int .u8 k, .int .i64 a, .string b, .int .u64 n, v] 25)) := (Below.refl _ _).alloc (Nat.le_refl _) _
  clear hq hqn hbn
  cases hn0 : (n == 0) with
  | false =>
    go_enter Tryz.func30, Tryz.ntmps30
    go_wp2
    all_goals go_ret
    all_goals exact ⟨ret_bool (by rw [HQ.out]; simp [*]), hb1⟩
  | true =>
    go_enter Tryz.func30, Tryz.ntmps30
    go_wp2_with fail
    refine (CN _).mono ?_
    rintro en w1 ⟨rfl, hb2⟩
    have o2 := o1.below hb2
    obtain ⟨p0, p1, p2, p3, p4, pf⟩ := o2.five
    have hl2 := o2.lt
    have hb3 := hb1.trans (hb2.mono hb1.size)
    clear o1 o2 hb1 hb2
    cases qn with
    | true =>
      go_wp2
      go_ret
      exact ⟨ret_bool (by rw [HQ.out]; simp [*]), hb3⟩
    | false =>
      cases f with
      | true =>
        go_wp2
        all_goals go_ret
        all_goals exact ⟨ret_bool (by rw [HQ.out]; simp [*]), hb3⟩
      | false =>
        go_wp2
        all_goals go_ret
        all_goals exact ⟨ret_bool (by rw [HQ.out]; simp [*]), hb3⟩
def typeXs : List ByteArray := [⟨#[105, 56]⟩, ⟨#[105, 51, 50]⟩, ⟨#[105, 54, 52]⟩, ⟨#[98, 111, 111, 108]⟩, ⟨#[98, 121, 116, 101, 115]⟩]
def intXs : List ByteArray := [⟨#[105, 56]⟩, ⟨#[105, 51, 50]⟩, ⟨#[105, 54, 52]⟩]
theorem ztypes_as (w : World) : Calls Tryz.prog 24 #[] w fun en w' => en = .returned (.slice (some ⟨w.heap.size, 0, none⟩) 5 5) ∧ StrsIn w' w.heap.size typeXs ∧ Below w.heap.size w w' := by
  go_enter Tryz.func24, Tryz.ntmps24
  go_wp2
  go_ret
  exact ⟨rfl, Own.new w _ _, (Below.refl _ _).alloc (Nat.le_refl _) _⟩
theorem zints_as (w : World) : Calls Tryz.prog 31 #[] w fun en w' => en = .returned (.slice (some ⟨w.heap.size, 0, none⟩) 3 3) ∧ StrsIn w' w.heap.size intXs ∧ Below w.heap.size w w' := by
  go_enter Tryz.func31, Tryz.ntmps31
  go_wp2
  go_ret
  exact ⟨rfl, Own.new w _ _, (Below.refl _ _).alloc (Nat.le_refl _) _⟩
def AmRel (w : World) (s : ByteArray) (xs : List ByteArray) (n g : Nat) (v : Value) (wr : World) : Prop := ∃ k : Nat, k + g = n ∧ v = .int .i64 (k : Int) ∧ w = wr ∧ ∀ j x, j < k → xs[j]? = some x → (x.toList == s.toList) = false
theorem zamong_as (w : World) (s : ByteArray) (b : Nat) (xs : List ByteArray) (hs : StrsIn w b xs) (n : Nat) (hn : xs.length = n) (hl : n ≤ 100) (q : Bool) (hq : (xs.any fun x => x.toList == s.toList) = q) : Calls Tryz.prog 23 #[.string s, .slice (some ⟨b, 0, none⟩) n n] w fun en w' => en = .returned (.bool q) ∧ w = w' := by
  have HQ : Hid ((xs.any fun x => x.toList == s.toList) = q) := hq
  have HS : Hid (StrsIn w b xs) := hs
  have HN : Hid (xs.length = n) := hn
  clear hq hs hn
  go_enter Tryz.func23, Tryz.ntmps23
  go_wp2_with fail
  go_loopg [5] n (fun g v wr => AmRel w s xs n g v wr)
  case atStart => exact ⟨0, by omega, rfl, rfl, fun j x h => by omega⟩
  case round =>
    obtain ⟨k, hk, rfl, rfl, hno⟩ := hrel
    have HNO : Hid (∀ j x, j < k → xs[j]? = some x → (x.toList == s.toList) = false) := hno
    clear hno
    by_cases hlt : k < n
    · obtain ⟨x, hx⟩ : ∃ x, xs[k]? = some x := ⟨xs[k]'(by rw [HN.out]; exact hlt), List.getElem?_eq_getElem _⟩
      have hcell : w.cell? ⟨b, k, none⟩ = some (.string x) := (cell_of_row _ _ k _ _ _ HS.out).trans (by simp [hx])
      have hbl := HS.out.lt
      have i1 : (k : Int) < (n : Int) := by omega
      have i2 : (0 : Int) ≤ (k : Int) := by omega
      obtain ⟨q1, hq1⟩ : ∃ q1, (x.toList == s.toList) = q1 := ⟨_, rfl⟩
      have HX : Hid (xs[k]? = some x) := hx
      have HK : Hid (k + gk = n) := hk
      clear hx hk
      cases q1 with
      | true =>
        have hqt : q = true := by
          rw [← HQ.out, List.any_eq_true]
          exact ⟨x, List.mem_of_getElem? HX.out, hq1⟩
        subst hqt
        go_wp2
        go_ret
        exact ⟨rfl, rfl⟩
      | false =>
        have HN2 : Hid (∀ j y, j < k + 1 → xs[j]? = some y → (y.toList == s.toList) = false) := fun j y hj hy => by
          by_cases e : j = k
          · subst e; rw [HX.out] at hy; cases hy; exact hq1
          · exact HNO.out j y (by omega) hy
        have hg1 : 1 ≤ gk := by have := HK.out; omega
        go_wp2
        go_roundg (gk - 1)
        case rel => exact ⟨k + 1, by have := HK.out; omega, by go_num, rfl, HN2.out⟩
        case measure => omega
    · have i1 : ¬ (k : Int) < (n : Int) := by omega
      have hqf : q = false := by
        rw [← HQ.out]
        cases h : (xs.any fun x => x.toList == s.toList) with
        | false => rfl
        | true =>
          obtain ⟨x, hx, hx2⟩ := List.any_eq_true.1 h
          obtain ⟨j, hj⟩ := List.getElem?_of_mem hx
          have hjl : j < xs.length := by
            refine Classical.byContradiction fun z => ?_
            rw [List.getElem?_eq_none (by omega)] at hj; cases hj
          rw [HNO.out j x (by rw [HN.out] at hjl; omega) hj] at hx2
          cases hx2
      subst hqf
      go_wp2
      go_ret
      exact ⟨rfl, rfl⟩
theorem among_types {b : ByteArray} {x : List Nat} (HX : Hid (TxtIs b x)) : (typeXs.any fun y => y.toList == b.toList) = tyB x := by
  have h : ∀ y : ByteArray, (y.toList == b.toList) = (x == bytesN y) := fun y => by
    have := txt_lit b x HX y
    rw [← this, ByteArray.toList_eq (bs := y)]
    exact Bool.beq_comm
  simp only [typeXs, List.any_cons, List.any_nil, h, tyB, isIntL, Bool.or_false, Bool.or_assoc]
  rfl
theorem among_ints {b : ByteArray} {x : List Nat} (HX : Hid (TxtIs b x)) : (intXs.any fun y => y.toList == b.toList) = isIntL x := by
  have h : ∀ y : ByteArray, (y.toList == b.toList) = (x == bytesN y) := fun y => by
    have := txt_lit b x HX y
    rw [← this, ByteArray.toList_eq (bs := y)]
    exact Bool.beq_comm
  simp only [intXs, List.any_cons, List.any_nil, h, isIntL, Bool.or_false, Bool.or_assoc]
  rfl
def IsAs (what : Int) (t : Tree) : Prop := ∀ (w : World) (k a : Int) (b : ByteArray) (n : Int) (v : Value), NodeR w t k a b n v → Calls Tryz.prog 14 #[.agg #[.int .u8 k, .int .i64 a, .string b, .int .u64 n, v], .int .i64 what] w fun en w' => en = .returned (.bool (vR what t)) ∧ Below w.heap.size w w'
def AllRel (w : World) (what : Int) (ts : List Tree) (n g : Nat) (v : Value) (wr : World) : Prop := ∃ k : Nat, k + g = n ∧ v = .int .i64 (k : Int) ∧ Below w.heap.size w wr ∧ ∀ j x, j < k → ts[j]? = some x → vR what x = true
theorem zall_as (what : Int) (ts : List Tree) (H : ∀ t ∈ ts, IsAs what t) (w : World) (v : Value) (hv : KidsR w v ts) (q : Bool) (hq : ts.all (vR what) = q) : Calls Tryz.prog 29 #[v, .int .i64 what] w fun en w' => en = .returned (.bool q) ∧ Below w.heap.size w w' := by
  obtain ⟨ao, cap, rfl, hc1, hc2, _⟩ := id hv
  obtain ⟨n, hn⟩ : ∃ n, ts.length = n := ⟨_, rfl⟩
  have HV : Hid (KidsR w (.slice ao ts.length cap) ts) := hv
  have HN : Hid (ts.length = n) := hn
  have HQ : Hid (ts.all (vR what) = q) := hq
  have HH : Hid (∀ t ∈ ts, IsAs what t) := H
  rw [hn] at hc1 ⊢
  clear hv hq hn H
  go_enter Tryz.func29, Tryz.ntmps29
  go_wp2_with fail
  go_loopg [5] n (fun g v wr => AllRel w what ts n g v wr)
  case atStart => exact ⟨0, by omega, rfl, Below.refl _ _, fun j x h => by omega⟩
  case round =>
    obtain ⟨k, hk, rfl, hb, hno⟩ := hrel
    have HNO : Hid (∀ j x, j < k → ts[j]? = some x → vR what x = true) := hno
    clear hno
    by_cases hlt : k < n
    · obtain ⟨x, hx⟩ : ∃ x, ts[k]? = some x := ⟨ts[k]'(by rw [HN.out]; exact hlt), List.getElem?_eq_getElem _⟩
      obtain ⟨g, o, aj, cj, rfl, hg, f0, f1, f2, f3, f4, hk1⟩ := kids_cells HV.out hb k x hx
      have i1 : (k : Int) < (n : Int) := by omega
      have i2 : (0 : Int) ≤ (k : Int) := by omega
      have hgr : g < wr.heap.size := Nat.lt_of_lt_of_le hg hb.size
      obtain ⟨q1, hq1⟩ : ∃ q1, vR what x = q1 := ⟨_, rfl⟩
      have CI := HH.out x (List.mem_of_getElem? hx) wr _ _ _ _ _ ⟨rfl, rfl, rfl, rfl, hk1.below hb⟩
      rw [hq1] at CI
      have HX : Hid (ts[k]? = some x) := hx
      have HK : Hid (k + gk = n) := hk
      clear hx hk hk1
      go_wp2_with fail
      refine CI.mono ?_
      rintro en w1 ⟨rfl, hb1⟩
      have hb2 : Below w.heap.size w w1 := hb.trans (hb1.mono hb.size)
      clear CI
      cases q1 with
      | false =>
        have hqt : q = false := by
          rw [← HQ.out, List.all_eq_false]
          exact ⟨x, List.mem_of_getElem? HX.out, by simp [hq1]⟩
        subst hqt
        clear hq1
        go_wp2
        go_ret
        exact ⟨rfl, hb2⟩
      | true =>
        have HN2 : Hid (∀ j y, j < k + 1 → ts[j]? = some y → vR what y = true) := fun j y hj hy => by
          by_cases e : j = k
          · subst e; rw [HX.out] at hy; cases hy; exact hq1
          · exact HNO.out j y (by omega) hy
        have hg1 : 1 ≤ gk := by have := HK.out; omega
        clear hq1
        go_wp2
        go_roundg (gk - 1)
        case rel => exact ⟨k + 1, by have := HK.out; omega, by go_num, hb2, HN2.out⟩
        case measure => omega
    · have i1 : ¬ (k : Int) < (n : Int) := by omega
      have hqf : q = true := by
        rw [← HQ.out, List.all_eq_true]
        intro x hx
        obtain ⟨j, hj⟩ := List.getElem?_of_mem hx
        have hjl : j < ts.length := by
          refine Classical.byContradiction fun z => ?_
          rw [List.getElem?_eq_none (by omega)] at hj; cases hj
        exact HNO.out j x (by rw [HN.out] at hjl; omega) hj
      subst hqf
      go_wp2
      go_ret
      exact ⟨rfl, hb⟩
end Go.Proofs.YtmhnbklchnnbaaaGreatDoor
