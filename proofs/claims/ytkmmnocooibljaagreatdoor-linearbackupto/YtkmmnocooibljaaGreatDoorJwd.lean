/-
  Bs, what is reached of it.
  Lb, what is reached of it.
  Wd, what is reached of it.
-/
import Derived.Test.YtkmmnocooibljaaGreatDoorLz
import Derived.Test.YtkmmnocooibljaaGreatDoorOmq
import Derived.WalkKit
import Derived.WalkLawsBesides
import Derived.WalkSpells
import Derived.Handy
import Derived.Outline
import Derived.Below
import Derived.Lib.SmallJoins
import Derived.Lib.SliceRun
import Derived.Maps.AppendAt
import Derived.Maps.Own
import Derived.Maps.Views
import Derived.Laws.BytesArg
import Derived.Laws.AppendOwnNone
import Derived.Laws.CopyRow
import Derived.Deep.MidRow
import Derived.Deep.Cut
import Derived.Deep.CutBlock
import Derived.Deep.Onto
import Derived.Deep.RegionHeld3
import Derived.Deep.LoopGhost
import Derived.Deep.QuietTactic
import Derived.BigQuiet
namespace Go.Proofs.YtkmmnocooibljaaGreatDoor
open Go.ChangeShapes Go.WideShapes Go.ChangeAt Go.RowKit Go.Deep
set_option linter.unusedVariables false

theorem own1 {w : World} {g : Nat} {a0 : Value} {t : TypeId} (h : Own w g #[a0] t) : w.cell? ⟨g, 0, none⟩ = some a0 ∧ ∀ j, w.frozen? ⟨g, j, none⟩ = false := ⟨h.cell 0, h.froz⟩
theorem own2 {w : World} {g : Nat} {a0 a1 : Value} {t : TypeId} (h : Own w g #[a0, a1] t) : w.cell? ⟨g, 0, none⟩ = some a0 ∧ w.cell? ⟨g, 1, none⟩ = some a1 ∧ ∀ j, w.frozen? ⟨g, j, none⟩ = false := ⟨h.cell 0, h.cell 1, h.froz⟩
theorem own3 {w : World} {g : Nat} {a0 a1 a2 : Value} {t : TypeId} (h : Own w g #[a0, a1, a2] t) : w.cell? ⟨g, 0, none⟩ = some a0 ∧ w.cell? ⟨g, 1, none⟩ = some a1 ∧ w.cell? ⟨g, 2, none⟩ = some a2 ∧ ∀ j, w.frozen? ⟨g, j, none⟩ = false := ⟨h.cell 0, h.cell 1, h.cell 2, h.froz⟩
abbrev ptr (p : Nat) : Value := .pointer (some ⟨p, 0, none⟩)
theorem okB : ElemOk 30 5 (.int .u8 0) 1 1 := ⟨Tryz.underlying30, by kernel_rfl, rfl, by omega, by omega⟩
theorem okX : ElemOk 69 43 (.agg #[.int .u8 0, .int .i64 0, .int .i64 0, .slice none 0 0]) 4 48 := ⟨Tryz.underlying69, by kernel_rfl, rfl, by omega, by omega⟩
theorem okN : ElemOk 70 3 (.int .i64 0) 1 8 := ⟨Tryz.underlying70, by kernel_rfl, rfl, by omega, by omega⟩
def FnIs (fn : Nat) : Prop := ∀ (a : Array Value) (w : World), (callFunc fn a).run Tryz.prog w = .ok (.enter fn a) w
theorem ret_int {k : IntKind} {x y : Int} (h : x = y) : Ending.returned (.int k x) = .returned (.int k y) := by rw [h]
theorem ret_bool {x y : Bool} (h : x = y) : Ending.returned (.bool x) = Ending.returned (.bool y) := by rw [h]
end Go.Proofs.YtkmmnocooibljaaGreatDoor
namespace Go.Proofs.YtkmmnocooibljaaGreatDoor
open Go.ChangeShapes Go.WideShapes Go.ChangeAt Go.RowKit Go.Deep
set_option linter.unusedVariables false

theorem bodyPost_cell3 {P : Program} {fn : Func} {R : Ending → World → Prop} {a : Act} {w : World} {p u v : Tmp} {ty : TypeId} {g : Nat} {t : TypeId} {cs : Array Value} {fr : Nat × Nat} {d : TypeDesc} (h : fn.results = #[.cell p ty, .tmp u, .tmp v])
    (hp : a.tmps.getD p undef = .pointer (some ⟨g, 0, none⟩)) (hd : a.defers = []) (hg : w.heap[g]? = some (.cells cs t fr))
    (hu : P.underlying ty = some d) (hd2 : (match d with | .struct _ | .array _ _ => true | _ => false) = true) (hi : (P.info? ty).map (·.size) = some cs.size)
    (hR : R (.returned (.tuple #[.agg cs, a.tmps.getD u undef, a.tmps.getD v undef])) w) : bodyPost P fn R .ret a w := by
  refine bodyPost_ret ?_ hd hR
  have hp' : a.tmps[p]?.getD undef = .pointer (some ⟨g, 0, none⟩) := by simpa using hp
  simp [results, h, hp', asAddr, run_loadVar_row w g t ty cs fr d hg hu hd2 hi]
theorem info8 : (Tryz.prog.info? 5).map (fun i => (i.zero, i.size, i.bytes)) = some (some (.int .u8 0), 1, 1) := by kernel_rfl
theorem nums_length (xs : List Nat) : (nums xs).length = xs.length := by simp [nums]
theorem own_put4 {w : World} {g : Nat} {t : TypeId} {a0 a1 a2 a3 : Value} (h : Own w g #[a0, a1, a2, a3] t) (b0 b1 b2 b3 : Value) : Own ((((w.setCell ⟨g, 0, none⟩ b0).setCell ⟨g, 1, none⟩ b1).setCell ⟨g, 2, none⟩ b2).setCell ⟨g, 3, none⟩ b3).drew g #[b0, b1, b2, b3] t := by
  have := ((((h.set 0 b0).set 1 b1).set 2 b2).set 3 b3).drew
  simpa using this
theorem fr_put4 (w : World) (g : Nat) (b0 b1 b2 b3 : Value) : Fr (fun k => k = g) w ((((w.setCell ⟨g, 0, none⟩ b0).setCell ⟨g, 1, none⟩ b1).setCell ⟨g, 2, none⟩ b2).setCell ⟨g, 3, none⟩ b3).drew :=
  (((((Fr.refl (fun k => k = g) w).set (g := g) (.inr rfl) 0 _).set (g := g) (.inr rfl) 1 _).set (g := g) (.inr rfl) 2 _).set (g := g) (.inr rfl) 3 _).drew
theorem nums_append (xs ys : List Nat) : nums (xs ++ ys) = nums xs ++ nums ys := by simp [nums]
theorem nums_one (xs : List Nat) : ∀ u ∈ nums xs, u.oneCell' = true := by
  intro u hu
  simp only [nums, List.mem_map] at hu
  obtain ⟨c, _, rfl⟩ := hu
  rfl
/-- append of bytes that lie anywhere (or of none). -/
theorem run_appL (W : World) (ty : TypeId) (v : Value) (xs : List Nat) (hown : Rw W 5 1 v xs.length (nums xs)) (ao : Option Addr) (m c : Nat) (ys : List Nat) (hl : Lies W ao ys) (hm : m = ys.length) (hno : ao = none → c = 0) (hn : xs.length + m ≤ 100000000000) :
    ∃ ao' n' c' w', (Builtin.append_ #[30, 30] ty #[v, .slice ao m c]).run Tryz.prog W = .ok (.slice ao' n' c') w' ∧ n' = (xs ++ ys).length ∧ Rw w' 5 1 (.slice ao' n' c') (xs ++ ys).length (nums (xs ++ ys)) ∧ W.grownBy w' v.ownBlock ∧ ((Value.slice ao' n' c').ownBlock = v.ownBlock ∨ (Value.slice ao' n' c').ownBlock = some W.heap.size) := by
  cases ao with
  | none =>
    have hm0 : m = 0 := by
      rcases hl.2.2 with h0 | ⟨b, off, h0, _⟩
      · rw [hm, h0]; rfl
      · exact (Option.some_ne_none _ h0.symm).elim
    have hc0 := hno rfl
    subst hm0; subst hc0
    have hy : ys = [] := List.eq_nil_of_length_eq_zero hm.symm
    subst hy
    obtain ⟨ao, cp, rfl, h1, h2⟩ := hown.shape
    have hr : (Builtin.append_ #[30, 30] ty #[.slice ao xs.length cp, .slice none 0 0]).run Tryz.prog W = .ok (.slice ao xs.length cp) W := by
      obtain ⟨i8, hi, hz0, hz1, hz2⟩ := info_parts info8
      exact run_append_owned_none (P := Tryz.prog) (w := W) 0 30 ty 5 i8 1 Tryz.underlying30 hi _ _ _ hown
    refine ⟨ao, xs.length, cp, W, hr, by simp, ?_, World.grownBy.refl _ _, .inl rfl⟩
    simpa using hown
  | some ad =>
    have hcell : ∀ j u, (nums ys)[j]? = some u → W.cell? (ad.add j) = some u := by
      intro j u hu
      rcases hl.2.2 with h0 | ⟨b, off, h0, hc⟩
      · rw [h0] at hu; simp [nums] at hu
      · cases h0
        have hj : j < ys.length := by
          by_cases hj : j < ys.length
          · exact hj
          · rw [List.getElem?_eq_none (by rw [nums_length]; omega)] at hu; cases hu
        rw [nums_get ys j hj] at hu
        rw [← hu, ← hc j hj]
        congr 1
        unfold Addr.add; split <;> simp_all
    obtain ⟨v', w', hr, g1, g2, g3⟩ := run_appA okB W ty v xs.length (nums xs) hown ad m c (nums ys) (by rw [nums_length]; omega) hcell (nums_one ys) hn
    rw [← nums_append] at g1
    obtain ⟨ao', c', rfl, -⟩ := g1.shape
    have e : (xs ++ ys).length = xs.length + m := by rw [List.length_append, hm]
    exact ⟨ao', _, c', w', hr, e.symm, by rw [e]; exact g1, g2, g3⟩
theorem wpList_appL {W : World} {ops : Array Oper} {rest : List Oper} {o : Oper} {a : Act} {Q : Exit → Act → World → Prop} (hgd : o.guard = none) (s x : Operand)
    (ho : o.op = .call { callee := .builtin .append, args := #[s, x], argTypes := #[30, 30] }) (v : Value) (xs : List Nat) (hs : a.eval s = v) (hown : Rw W 5 1 v xs.length (nums xs)) (ao : Option Addr) (m c : Nat) (ys : List Nat) (hx : a.eval x = .slice ao m c) (hl : Lies W ao ys) (hm : m = ys.length) (hno : ao = none → c = 0) (hn : xs.length + m ≤ 100000000000)
    (h : ∀ ao' n' c' w', n' = (xs ++ ys).length → Rw w' 5 1 (.slice ao' n' c') (xs ++ ys).length (nums (xs ++ ys)) → W.grownBy w' v.ownBlock → ((Value.slice ao' n' c').ownBlock = v.ownBlock ∨ (Value.slice ao' n' c').ownBlock = some W.heap.size) → wpList Tryz.prog ops Q rest (a.put o.dst (.slice ao' n' c')) w') :
    wpList Tryz.prog ops Q (o :: rest) a W := by
  obtain ⟨ao', n', c', w', hrun, g0, g1, g2, g4⟩ := run_appL W o.type v xs hown ao m c ys hl hm hno hn
  refine wpList_plain hgd fun K hK => ?_
  unfold Oper.wp execOp
  simp only [ho, resolve, invoke, builtin, Sem.run_bind, Sem.run_pure, Result.andThen_ok, List.map_toArray, List.map_cons, List.map_nil, hs, hx, hrun]
  exact hK _ _ (h ao' n' c' w' g0 g1 g2 g4)
theorem lies_row {w : World} {B g n cap : Nat} {xs : List Nat} (hn : n = xs.length) (h : w.ownsRow B 5 1 (.slice (some ⟨g, 0, none⟩) n cap) n (nums xs)) (hb : ∀ c ∈ xs, c < 256) (hm : xs.length ≤ 9223372036854775807) : Lies w (some ⟨g, 0, none⟩) xs := by
  subst hn
  refine ⟨hb, hm, .inr ⟨g, 0, rfl, fun i hi => ?_⟩⟩
  rw [Nat.zero_add, h.cellAt i (by omega), nums_get xs i hi]
end Go.Proofs.YtkmmnocooibljaaGreatDoor
namespace Go.Proofs.YtkmmnocooibljaaGreatDoor
open Go.ChangeShapes Go.WideShapes Go.ChangeAt Go.RowKit Go.Deep
set_option linter.unusedVariables false

theorem bits1 (w : World) : Calls Tryz.prog 117 #[.int .u8 1] w fun e w' => e = .returned (.int .i64 8) ∧ w = w' := by
  go_enter Tryz.func117, Tryz.ntmps117
  go_wp2
  go_ret
  exact ⟨rfl, rfl⟩
theorem bits2 (w : World) : Calls Tryz.prog 117 #[.int .u8 2] w fun e w' => e = .returned (.int .i64 32) ∧ w = w' := by
  go_enter Tryz.func117, Tryz.ntmps117
  go_wp2
  go_ret
  exact ⟨rfl, rfl⟩
theorem bits3 (w : World) : Calls Tryz.prog 117 #[.int .u8 3] w fun e w' => e = .returned (.int .i64 64) ∧ w = w' := by
  go_enter Tryz.func117, Tryz.ntmps117
  go_wp2
  go_ret
  exact ⟨rfl, rfl⟩
theorem bits0 (w : World) : Calls Tryz.prog 117 #[.int .u8 0] w fun e w' => e = .returned (.int .i64 0) ∧ w = w' := by
  go_enter Tryz.func117, Tryz.ntmps117
  go_wp2
  go_ret
  exact ⟨rfl, rfl⟩
def wr8 (n : Int) : Int := (n + 128) % 256 - 128
def wr32 (n : Int) : Int := (n + 2147483648) % 4294967296 - 2147483648
theorem wrap_s8 (x : Int) : IntKind.i8.wrap x = wr8 x := by
  unfold wr8
  simp [IntKind.wrap, IntKind.bits, IntKind.signed]
  split <;> omega
theorem wrap1 (n : Int) (w : World) : Calls Tryz.prog 127 #[.int .u8 1, .int .i64 n] w fun e w' => e = .returned (.int .i64 (wr8 n)) ∧ w = w' := by
  go_enter Tryz.func127, Tryz.ntmps127
  go_wp2
  go_ret
  refine ⟨ret_int ?_, rfl⟩
  rw [wrap_s8]; unfold wrap64 wr8; omega
theorem wrap2 (n : Int) (w : World) : Calls Tryz.prog 127 #[.int .u8 2, .int .i64 n] w fun e w' => e = .returned (.int .i64 (wr32 n)) ∧ w = w' := by
  go_enter Tryz.func127, Tryz.ntmps127
  go_wp2
  go_ret
  refine ⟨ret_int ?_, rfl⟩
  unfold wrap64 wrap32 wr32; omega
theorem wrap3 (n : Int) (w : World) : Calls Tryz.prog 127 #[.int .u8 3, .int .i64 n] w fun e w' => e = .returned (.int .i64 n) ∧ w = w' := by
  go_enter Tryz.func127, Tryz.ntmps127
  go_wp2
  go_ret
  exact ⟨rfl, rfl⟩
theorem fits1 (n : Int) (b : Bool) (hb : decide (wr8 n = n) = b) (w : World) : Calls Tryz.prog 136 #[.int .u8 1, .int .i64 n] w fun e w' => e = .returned (.bool b) ∧ w = w' := by
  subst hb
  go_enter Tryz.func136, Tryz.ntmps136
  go_wp2_with fail
  refine (bits1 _).mono ?_
  rintro e w1 ⟨rfl, rfl⟩
  go_wp2_with fail
  refine (wrap1 n _).mono ?_
  rintro e w1 ⟨rfl, rfl⟩
  go_wp2
  go_ret
  exact ⟨ret_bool (by rw [Bool.eq_iff_iff]; simp), rfl⟩
theorem fits2 (n : Int) (b : Bool) (hb : decide (wr32 n = n) = b) (w : World) : Calls Tryz.prog 136 #[.int .u8 2, .int .i64 n] w fun e w' => e = .returned (.bool b) ∧ w = w' := by
  subst hb
  go_enter Tryz.func136, Tryz.ntmps136
  go_wp2_with fail
  refine (bits2 _).mono ?_
  rintro e w1 ⟨rfl, rfl⟩
  go_wp2_with fail
  refine (wrap2 n _).mono ?_
  rintro e w1 ⟨rfl, rfl⟩
  go_wp2
  go_ret
  exact ⟨ret_bool (by rw [Bool.eq_iff_iff]; simp), rfl⟩
theorem fits3 (n : Int) (w : World) : Calls Tryz.prog 136 #[.int .u8 3, .int .i64 n] w fun e w' => e = .returned (.bool true) ∧ w = w' := by
  go_enter Tryz.func136, Tryz.ntmps136
  go_wp2_with fail
  refine (bits3 _).mono ?_
  rintro e w1 ⟨rfl, rfl⟩
  go_wp2_with fail
  refine (wrap3 n _).mono ?_
  rintro e w1 ⟨rfl, rfl⟩
  go_wp2
  go_ret
  exact ⟨ret_bool (by simp), rfl⟩
/-- What a function that asks of a number answers. -/
def MayIs (f : Nat) (k : Nm) : Prop := ∀ (n : Int) (w : World), -9223372036854775808 ≤ n → n ≤ 9223372036854775807 → Calls Tryz.prog f #[.int .i64 n] w fun e w' => e = .returned (.bool (k.may n)) ∧ w = w'
theorem may_lo (k : Nm) (n : Int) (h : ¬ k.lo ≤ n) : k.may n = false := by unfold Nm.may; simp [h]
theorem may_hi (k : Nm) (n : Int) (h : k.lo ≤ n) : k.may n = decide (n ≤ k.hi) := by unfold Nm.may; simp [h]
theorem may_byte : MayIs 125 nByte := by
  intro n w h1 h2
  by_cases h : (0 : Int) ≤ n
  · rw [may_hi nByte n h]; show Calls _ _ _ _ fun e w' => e = .returned (.bool (decide (n ≤ 255))) ∧ _
    go_enter Tryz.func125, Tryz.ntmps125
    go_wp2
    go_ret
    exact ⟨rfl, rfl⟩
  · rw [may_lo nByte n h]
    go_enter Tryz.func125, Tryz.ntmps125
    go_wp2
    go_ret
    exact ⟨rfl, rfl⟩
theorem may_short : MayIs 121 nShort := by
  intro n w h1 h2
  by_cases h : (0 : Int) ≤ n
  · rw [may_hi nShort n h]; show Calls _ _ _ _ fun e w' => e = .returned (.bool (decide (n ≤ 65535))) ∧ _
    go_enter Tryz.func121, Tryz.ntmps121
    go_wp2
    go_ret
    exact ⟨rfl, rfl⟩
  · rw [may_lo nShort n h]
    go_enter Tryz.func121, Tryz.ntmps121
    go_wp2
    go_ret
    exact ⟨rfl, rfl⟩
theorem may_place : MayIs 124 nPlace := by
  intro n w h1 h2
  by_cases h : (0 : Int) ≤ n
  · rw [may_hi nPlace n h]; show Calls _ _ _ _ fun e w' => e = .returned (.bool (decide (n ≤ 4294967295))) ∧ _
    go_enter Tryz.func124, Tryz.ntmps124
    go_wp2
    go_ret
    exact ⟨rfl, rfl⟩
  · rw [may_lo nPlace n h]
    go_enter Tryz.func124, Tryz.ntmps124
    go_wp2
    go_ret
    exact ⟨rfl, rfl⟩
theorem may_width : MayIs 122 nWidth := by
  intro n w h1 h2
  by_cases h : (1 : Int) ≤ n
  · rw [may_hi nWidth n h]; show Calls _ _ _ _ fun e w' => e = .returned (.bool (decide (n ≤ 3))) ∧ _
    go_enter Tryz.func122, Tryz.ntmps122
    go_wp2
    go_ret
    exact ⟨rfl, rfl⟩
  · rw [may_lo nWidth n h]
    go_enter Tryz.func122, Tryz.ntmps122
    go_wp2
    go_ret
    exact ⟨rfl, rfl⟩
theorem may_kind : MayIs 123 nKind := by
  intro n w h1 h2
  by_cases h : (1 : Int) ≤ n
  · rw [may_hi nKind n h]; show Calls _ _ _ _ fun e w' => e = .returned (.bool (decide (n ≤ 5))) ∧ _
    go_enter Tryz.func123, Tryz.ntmps123
    go_wp2
    go_ret
    exact ⟨rfl, rfl⟩
  · rw [may_lo nKind n h]
    go_enter Tryz.func123, Tryz.ntmps123
    go_wp2
    go_ret
    exact ⟨rfl, rfl⟩
theorem may_nothing : MayIs 116 nNone := by
  intro n w h1 h2
  go_enter Tryz.func116, Tryz.ntmps116
  go_wp2
  go_ret
  exact ⟨ret_bool (by unfold Nm.may nNone; rw [Bool.eq_iff_iff]; simp; omega), rfl⟩
theorem may_i8 (k : Nm) (h1 : k.lo = -128) (h2 : k.hi = 127) : MayIs 118 k := by
  intro n w _ _
  have e : decide (wr8 n = n) = k.may n := by unfold Nm.may wr8; rw [h1, h2, decide_eq_decide]; omega
  generalize k.may n = q at *
  go_enter Tryz.func118, Tryz.ntmps118
  go_wp2_with fail
  refine (fits1 n q e _).mono ?_
  rintro e w1 ⟨rfl, rfl⟩
  go_wp2
  go_ret
  exact ⟨rfl, rfl⟩
theorem may_i32 (k : Nm) (h1 : k.lo = -2147483648) (h2 : k.hi = 2147483647) : MayIs 119 k := by
  intro n w _ _
  have e : decide (wr32 n = n) = k.may n := by unfold Nm.may wr32; rw [h1, h2, decide_eq_decide]; omega
  generalize k.may n = q at *
  go_enter Tryz.func119, Tryz.ntmps119
  go_wp2_with fail
  refine (fits2 n q e _).mono ?_
  rintro e w1 ⟨rfl, rfl⟩
  go_wp2
  go_ret
  exact ⟨rfl, rfl⟩
theorem may_i64 (k : Nm) (h1 : k.lo = -9223372036854775808) (h2 : k.hi = 9223372036854775807) : MayIs 120 k := by
  intro n w q1 q2
  have e : k.may n = true := by unfold Nm.may; rw [h1, h2, decide_eq_true_eq]; omega
  rw [e]
  go_enter Tryz.func120, Tryz.ntmps120
  go_wp2_with fail
  refine (fits3 n _).mono ?_
  rintro e w1 ⟨rfl, rfl⟩
  go_wp2
  go_ret
  exact ⟨rfl, rfl⟩
end Go.Proofs.YtkmmnocooibljaaGreatDoor
