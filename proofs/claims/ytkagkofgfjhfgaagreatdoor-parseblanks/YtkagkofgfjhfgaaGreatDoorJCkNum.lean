/-
  Texts joined: CkNum, CkText.
-/
import Derived.Test.YtkagkofgfjhfgaaGreatDoorJCkFits
import Derived.Test.YtkagkofgfjhfgaaGreatDoorJPart3

/-
  CONTRACTS of the landed Check's parts: a text, a number.
-/
namespace Go.Proofs.YtkagkofgfjhfgaaGreatDoor
open Go.RowKit
set_option linter.unusedVariables false

theorem isInt_lit (b : ByteArray) (x : List Nat) (HX : Hid (b = strN x ∧ (∀ c ∈ x, c < 256) ∧ x.length ≤ 1048576)) (y : ByteArray) : (b.toList == y.data.toList) = (x == bytesN y) :=
  betw_text (t := (0, x, 0, 0, 0)) ⟨HX.out.2.1, HX.out.2.2⟩ (k := 0) (n := 0) (a := 0) (e := 0) ⟨rfl, HX.out.1, rfl, rfl, rfl⟩ y
set_option maxRecDepth 100000 in
theorem pisInt_as (w : World) (b : ByteArray) (x : List Nat) (HX : Hid (b = strN x ∧ (∀ c ∈ x, c < 256) ∧ x.length ≤ 1048576)) : Calls Tryz.prog 74 #[.string b] w fun en w' => en = .returned (.bool (isIntL x)) ∧ w = w' := by
  have e1 : (b.toList == [105, 56]) = (x == [105, 56]) := isInt_lit b x HX ⟨#[105, 56]⟩
  have e2 : (b.toList == [105, 51, 50]) = (x == [105, 51, 50]) := isInt_lit b x HX ⟨#[105, 51, 50]⟩
  have e3 : (b.toList == [105, 54, 52]) = (x == [105, 54, 52]) := isInt_lit b x HX ⟨#[105, 54, 52]⟩
  have HI : Hid (isIntL x = (x == [105, 56] || x == [105, 51, 50] || x == [105, 54, 52])) := rfl
  generalize (x == [105, 56]) = q1 at e1 HI
  generalize (x == [105, 51, 50]) = q2 at e2 HI
  generalize (x == [105, 54, 52]) = q3 at e3 HI
  cases q1 <;> cases q2 <;> cases q3
  all_goals
    go_enter Tryz.func74, Tryz.ntmps74
    go_wp2
    go_ret
    exact ⟨ret_bool (by rw [HI.out]; rfl), rfl⟩
set_option maxRecDepth 100000 in
set_option maxHeartbeats 2000000 in
theorem pnumberFits_as (w : World) (r k a n : Int) (b : ByteArray) (v : Value) (hv : v.oneCell' = true) (x : List Nat) (HX : Hid (b = strN x ∧ (∀ c ∈ x, c < 256) ∧ x.length ≤ 1048576)) : Calls Tryz.prog 46 #[.agg #[.int .u8 k, .int .i64 a, .string b, .int .u64 n, v, .int .u8 r]] w fun en w' => en = .returned (.bool (numI k x n)) ∧ Below w.heap.size w w' := by
  have e1 : (b.toList == [105, 56]) = (x == [105, 56]) := isInt_lit b x HX ⟨#[105, 56]⟩
  have e2 : (b.toList == [105, 51, 50]) = (x == [105, 51, 50]) := isInt_lit b x HX ⟨#[105, 51, 50]⟩
  have e3 : (b.toList == [105, 54, 52]) = (x == [105, 54, 52]) := isInt_lit b x HX ⟨#[105, 54, 52]⟩
  have e4 : (b.toList == []) = (x == []) := isInt_lit b x HX ⟨#[]⟩
  have HI : Hid (numI k x n = if k == 8 then true else if k == 23 then decide (n ≤ 255) else if k == 40 then (x == [105, 56] && decide (n ≤ 255)) || (x == [105, 51, 50] && decide (n ≤ 4294967295)) || x == [105, 54, 52] || x == [] else n == 0) := rfl
  generalize (x == [105, 56]) = q1 at e1 HI
  generalize (x == [105, 51, 50]) = q2 at e2 HI
  generalize (x == [105, 54, 52]) = q3 at e3 HI
  generalize (x == []) = q4 at e4 HI
  cases h8 : (k == 8) with
  | true =>
    go_enter Tryz.func46, Tryz.ntmps46
    go_wp2
    go_ret
    exact ⟨ret_bool (by rw [HI.out]; simp [h8]), (Below.refl _ _).alloc (Nat.le_refl _) _⟩
  | false =>
    cases h23 : (k == 23) with
    | true =>
      go_enter Tryz.func46, Tryz.ntmps46
      go_wp2
      go_ret
      exact ⟨ret_bool (by rw [HI.out]; simp [h8, h23]), (Below.refl _ _).alloc (Nat.le_refl _) _⟩
    | false =>
      cases h40 : (k == 40) with
      | false =>
        go_enter Tryz.func46, Tryz.ntmps46
        go_wp2
        go_ret
        exact ⟨ret_bool (by rw [HI.out]; simp [h8, h23, h40]), (Below.refl _ _).alloc (Nat.le_refl _) _⟩
      | true =>
        cases q1 <;> cases q2 <;> cases q3 <;> cases q4
        all_goals
          go_enter Tryz.func46, Tryz.ntmps46
          go_wp2
          all_goals (go_ret; exact ⟨ret_bool (by rw [HI.out]; simp [*]), (Below.refl _ _).alloc (Nat.le_refl _) _⟩)
end Go.Proofs.YtkagkofgfjhfgaaGreatDoor

/-
  CONTRACTS of the landed Check's parts: a text.
-/
namespace Go.Proofs.YtkagkofgfjhfgaaGreatDoor
open Go.RowKit
set_option linter.unusedVariables false

set_option maxRecDepth 100000 in
set_option maxHeartbeats 4000000 in
theorem ptextFits_as (w : World) (r k a n : Int) (b : ByteArray) (v : Value) (hv : v.oneCell' = true) (x : List Nat) (HX : Hid (b = strN x ∧ (∀ c ∈ x, c < 256) ∧ x.length ≤ 1048576)) : Calls Tryz.prog 45 #[.agg #[.int .u8 k, .int .i64 a, .string b, .int .u64 n, v, .int .u8 r]] w fun en w' => en = .returned (.bool (textI k x)) ∧ Below w.heap.size w w' := by
  have hbn : bytesN b = x := by rw [HX.out.1]; exact bytesN_strN _ HX.out.2.1
  have hsz : b.size ≤ 1048576 := by rw [← bytesN_length b, hbn]; exact HX.out.2.2
  have HN : Hid (nameB (bytesN b) = nameB x) := by unfold Hid; rw [hbn]
  clear hbn
  have e4 : (b.toList == []) = (x == []) := isInt_lit b x HX ⟨#[]⟩
  have e5 : (b.toList == [98, 111, 111, 108]) = (x == [98, 111, 111, 108]) := isInt_lit b x HX ⟨#[98, 111, 111, 108]⟩
  have e6 : (b.toList == [98, 121, 116, 101, 115]) = (x == [98, 121, 116, 101, 115]) := isInt_lit b x HX ⟨#[98, 121, 116, 101, 115]⟩
  have HI : Hid (textI k x = if k == 2 || k == 3 || k == 4 || k == 25 || k == 44 || k == 45 || k == 48 then nameB x
    else if k == 15 || k == 16 || k == 17 || k == 20 || k == 21 then x == [] || nameB x
    else if k == 7 then isIntL x || x == [98, 111, 111, 108] || x == [98, 121, 116, 101, 115] || nameB x
    else if k == 46 then isIntL x
    else if k == 40 then x == [] || isIntL x
    else if k == 41 then true
    else x == []) := rfl
  obtain ⟨qn, hqn⟩ : ∃ q, nameB x = q := ⟨_, rfl⟩
  obtain ⟨qi, hqi⟩ : ∃ q, isIntL x = q := ⟨_, rfl⟩
  have hN2 : nameB (bytesN b) = qn := HN.out.trans hqn
  have HQI : Hid (isIntL x = qi) := hqi
  rw [hqn, hqi] at HI
  generalize (x == []) = q4 at e4 HI
  generalize (x == [98, 111, 111, 108]) = q5 at e5 HI
  generalize (x == [98, 121, 116, 101, 115]) = q6 at e6 HI
  have HNN : Hid (nameB (bytesN b) = qn) := hN2
  have CN : ∀ W : World, Calls Tryz.prog 73 #[.string b] W fun en w' => en = .returned (.bool qn) ∧ Below W.heap.size W w' := fun W => xname_as b qn hsz HNN.out W
  have CI : ∀ W : World, Calls Tryz.prog 74 #[.string b] W fun en w' => en = .returned (.bool qi) ∧ W = w' := fun W => by have := pisInt_as W b x HX; rw [HQI.out] at this; exact this
  clear hN2 hqn hqi
  go_enter Tryz.func45, Tryz.ntmps45
  go_wp2_with (first | (go_at_call 73; refine (CN _).mono ?_; rintro en w1 ⟨rfl, hb⟩) | (go_at_call 74; refine (CI _).mono ?_; rintro en _ ⟨rfl, rfl⟩))
  all_goals go_ret
  all_goals first
    | exact ⟨ret_bool (by rw [HI.out]; simp [*]), (Below.refl _ _).alloc (Nat.le_refl _) _⟩
    | exact ⟨ret_bool (by rw [HI.out]; simp [*]), ((Below.refl _ _).alloc (Nat.le_refl _) _).trans (hb.mono (by rw [World.size_alloc]; omega))⟩
end Go.Proofs.YtkagkofgfjhfgaaGreatDoor
