/-
  THE DOCUMENT'S Takes: lists that are written out.
  THE DOCUMENT'S plain, op by op. (Written by mkdp.py.)
  THE DOCUMENT'S plain, op by op. (Written by mkdp.py.)
  THE DOCUMENT'S plain, op by op. (Written by mkdp.py.)
  THE DOCUMENT'S plain, op by op. (Written by mkdp.py.)
  THE DOCUMENT'S plain, op by op. (Written by mkdp.py.)
-/
import Derived.Test.YtjfdlphkmpkjdaaDoorJta
import Derived.Test.YtjfdlphkmpkjdaaDoorDt1
namespace Go.Proofs.YtjfdlphkmpkjdaaDoor
open Go.RowKit
set_option linter.unusedVariables false

theorem nA {w1 : World} {B : Nat} (hB : B ≤ w1.heap.size) (l : List Int) (hl : l.length ≤ 1000) : IntNew (w1.alloc (.cells (intV l).toArray 3)) B (.slice (some ⟨w1.heap.size, 0, none⟩) l.length l.length) l :=
  ⟨⟨by rw [intV_length, Nat.mul_one], .inr ⟨w1.heap.size, l.length, (intV l).toArray, rfl, Nat.zero_le _, Own.new _ _ _, Nat.le_refl _, by unfold maxLen; omega, by simp [intV_length], by rw [List.take_of_length_le (by rw [intV_length]; omega)]⟩⟩, fun b e => by cases e; exact hB⟩
theorem nD {w : World} {B : Nat} {v : Value} {l : List Int} (h : IntNew w B v l) : IntNew w.drew B v l := h.below (below_drewd (Below.refl _ w))
theorem nAB {w1 : World} {B : Nat} (hB : B ≤ w1.heap.size) (l : List Int) (hl : l.length ≤ 1000) (o : Obj) : IntNew ((w1.alloc (.cells (intV l).toArray 3)).alloc o) B (.slice (some ⟨w1.heap.size, 0, none⟩) l.length l.length) l := (nA hB l hl).below (new_below _ _)
theorem nBA {w1 : World} {B : Nat} (hB : B ≤ w1.heap.size) (l : List Int) (hl : l.length ≤ 1000) (o : Obj) : IntNew ((w1.alloc o).alloc (.cells (intV l).toArray 3)) B (.slice (some ⟨w1.heap.size + 1, 0, none⟩) l.length l.length) l := by
  have := nA (w1 := w1.alloc o) (B := B) (by rw [World.size_alloc]; omega) l hl
  rw [World.size_alloc] at this
  exact this
theorem nbA {w w1 : World} (h : Below w.heap.size w w1) (o : Obj) : Below w.heap.size w (w1.alloc o) := h.alloc h.size o
theorem nbAA {w w1 : World} (h : Below w.heap.size w w1) (o o' : Obj) : Below w.heap.size w ((w1.alloc o).alloc o') := nbA (nbA h o) o'
def TwoRet (w : World) (l1 l2 : List Int) (e : Ending) (w' : World) : Prop := ∃ a1 c1 a2 c2, e = .returned (.tuple #[.slice a1 l1.length c1, .slice a2 l2.length c2]) ∧ IntNew w' w.heap.size (.slice a1 l1.length c1) l1 ∧ IntNew w' w.heap.size (.slice a2 l2.length c2) l2 ∧ Below w.heap.size w w'
theorem two_nn {w w1 : World} (b : Below w.heap.size w w1) : TwoRet w [] [] (.returned (.tuple #[.slice none 0 0, .slice none 0 0])) w1 := ⟨_, _, _, _, rfl, IntNew.nil _ _, IntNew.nil _ _, b⟩
theorem two_ln {w w1 : World} (b : Below w.heap.size w w1) (l : List Int) (hl : l.length ≤ 1000) : TwoRet w l [] (.returned (.tuple #[.slice (some ⟨w1.heap.size, 0, none⟩) l.length l.length, .slice none 0 0])) (w1.alloc (.cells (intV l).toArray 3)) := ⟨_, _, _, _, rfl, nA b.size l hl, IntNew.nil _ _, nbA b _⟩
theorem two_nl {w w1 : World} (b : Below w.heap.size w w1) (l : List Int) (hl : l.length ≤ 1000) : TwoRet w [] l (.returned (.tuple #[.slice none 0 0, .slice (some ⟨w1.heap.size, 0, none⟩) l.length l.length])) (w1.alloc (.cells (intV l).toArray 3)) := ⟨_, _, _, _, rfl, IntNew.nil _ _, nA b.size l hl, nbA b _⟩
theorem two_ll {w w1 : World} (b : Below w.heap.size w w1) (l k : List Int) (hl : l.length ≤ 1000) (hk : k.length ≤ 1000) : TwoRet w l k (.returned (.tuple #[.slice (some ⟨w1.heap.size, 0, none⟩) l.length l.length, .slice (some ⟨w1.heap.size + 1, 0, none⟩) k.length k.length])) ((w1.alloc (.cells (intV l).toArray 3)).alloc (.cells (intV k).toArray 3)) := ⟨_, _, _, _, rfl, nAB b.size l hl _, nBA b.size k hk _, nbAA b _ _⟩
theorem two_lk {w w1 : World} (b : Below w.heap.size w w1) (l k : List Int) (hl : l.length ≤ 1000) (hk : k.length ≤ 1000) : TwoRet w l k (.returned (.tuple #[.slice (some ⟨w1.heap.size + 1, 0, none⟩) l.length l.length, .slice (some ⟨w1.heap.size, 0, none⟩) k.length k.length])) ((w1.alloc (.cells (intV k).toArray 3)).alloc (.cells (intV l).toArray 3)) := ⟨_, _, _, _, rfl, nBA b.size l hl _, nAB b.size k hk _, nbAA b _ _⟩
theorem two_drew {w w1 : World} {l k : List Int} {e : Ending} (h : TwoRet w l k e w1) : TwoRet w l k e w1.drew := by
  obtain ⟨a1, c1, a2, c2, q, h1, h2, h3⟩ := h
  exact ⟨a1, c1, a2, c2, q, nD h1, nD h2, below_drewd h3⟩
end Go.Proofs.YtjfdlphkmpkjdaaDoor
namespace Go.Proofs.YtjfdlphkmpkjdaaDoor
open Go.RowKit
set_option linter.unusedVariables false

set_option maxHeartbeats 2000000 in
set_option maxRecDepth 100000 in
theorem rplain1 {w : World} (a b : Int) (ao : Option Addr) (n c : Nat) : Calls Tryd.prog 26 #[.agg #[.int .u8 1, .int .i64 a, .int .i64 b, .slice ao n c]] w (TwoRet w [] [1]) := by
  have o0 := Own.new w #[.int .u8 1, .int .i64 a, .int .i64 b, .slice ao n c] 24
  have b0 := new_below w (.cells #[.int .u8 1, .int .i64 a, .int .i64 b, .slice ao n c] 24)
  go_enter Tryd.func26, Tryd.ntmps26
  go_upto_region 1 with fail
  generalize w.alloc (.cells #[.int .u8 1, .int .i64 a, .int .i64 b, .slice ao n c] 24) = w1 at *
  obtain ⟨x0, x1, x2, x3, xf⟩ := own4 o0
  clear o0 x3
  go_upto_region 3 with fail
  go_region
  all_goals (
    go_wp2
    go_ret2
    exact two_drew (two_nl b0 [1] (by simp)))
set_option maxHeartbeats 2000000 in
set_option maxRecDepth 100000 in
theorem rplain2 {w : World} (a b : Int) (ao : Option Addr) (n c : Nat) : Calls Tryd.prog 26 #[.agg #[.int .u8 2, .int .i64 a, .int .i64 b, .slice ao n c]] w (TwoRet w [] [2]) := by
  have o0 := Own.new w #[.int .u8 2, .int .i64 a, .int .i64 b, .slice ao n c] 24
  have b0 := new_below w (.cells #[.int .u8 2, .int .i64 a, .int .i64 b, .slice ao n c] 24)
  go_enter Tryd.func26, Tryd.ntmps26
  go_upto_region 1 with fail
  generalize w.alloc (.cells #[.int .u8 2, .int .i64 a, .int .i64 b, .slice ao n c] 24) = w1 at *
  obtain ⟨x0, x1, x2, x3, xf⟩ := own4 o0
  clear o0 x3
  go_upto_region 3 with fail
  go_region
  all_goals (
    go_wp2
    go_ret2
    exact two_drew (two_nl b0 [2] (by simp)))
set_option maxHeartbeats 2000000 in
set_option maxRecDepth 100000 in
theorem rplain3 {w : World} (a b : Int) (ao : Option Addr) (n c : Nat) : Calls Tryd.prog 26 #[.agg #[.int .u8 3, .int .i64 a, .int .i64 b, .slice ao n c]] w (TwoRet w [] [3]) := by
  have o0 := Own.new w #[.int .u8 3, .int .i64 a, .int .i64 b, .slice ao n c] 24
  have b0 := new_below w (.cells #[.int .u8 3, .int .i64 a, .int .i64 b, .slice ao n c] 24)
  go_enter Tryd.func26, Tryd.ntmps26
  go_upto_region 1 with fail
  generalize w.alloc (.cells #[.int .u8 3, .int .i64 a, .int .i64 b, .slice ao n c] 24) = w1 at *
  obtain ⟨x0, x1, x2, x3, xf⟩ := own4 o0
  clear o0 x3
  go_upto_region 3 with fail
  go_region
  all_goals (
    go_wp2
    go_ret2
    exact two_drew (two_nl b0 [3] (by simp)))
set_option maxHeartbeats 2000000 in
set_option maxRecDepth 100000 in
theorem rplain4 {w : World} (a b : Int) (ao : Option Addr) (n c : Nat) : Calls Tryd.prog 26 #[.agg #[.int .u8 4, .int .i64 a, .int .i64 b, .slice ao n c]] w (TwoRet w [] [4]) := by
  have o0 := Own.new w #[.int .u8 4, .int .i64 a, .int .i64 b, .slice ao n c] 24
  have b0 := new_below w (.cells #[.int .u8 4, .int .i64 a, .int .i64 b, .slice ao n c] 24)
  go_enter Tryd.func26, Tryd.ntmps26
  go_upto_region 1 with fail
  generalize w.alloc (.cells #[.int .u8 4, .int .i64 a, .int .i64 b, .slice ao n c] 24) = w1 at *
  obtain ⟨x0, x1, x2, x3, xf⟩ := own4 o0
  clear o0 x3
  go_wp2
  go_ret2
  exact two_nl b0 [4] (by simp)
set_option maxHeartbeats 2000000 in
set_option maxRecDepth 100000 in
theorem rplain5 {w : World} (a b : Int) (ao : Option Addr) (n c : Nat) : Calls Tryd.prog 26 #[.agg #[.int .u8 5, .int .i64 a, .int .i64 b, .slice ao n c]] w (TwoRet w [] [4]) := by
  have o0 := Own.new w #[.int .u8 5, .int .i64 a, .int .i64 b, .slice ao n c] 24
  have b0 := new_below w (.cells #[.int .u8 5, .int .i64 a, .int .i64 b, .slice ao n c] 24)
  go_enter Tryd.func26, Tryd.ntmps26
  go_upto_region 1 with fail
  generalize w.alloc (.cells #[.int .u8 5, .int .i64 a, .int .i64 b, .slice ao n c] 24) = w1 at *
  obtain ⟨x0, x1, x2, x3, xf⟩ := own4 o0
  clear o0 x3
  go_wp2
  go_ret2
  exact two_nl b0 [4] (by simp)
set_option maxHeartbeats 2000000 in
set_option maxRecDepth 100000 in
theorem rplain6 {w : World} (a b : Int) (ao : Option Addr) (n c : Nat) : Calls Tryd.prog 26 #[.agg #[.int .u8 6, .int .i64 a, .int .i64 b, .slice ao n c]] w (TwoRet w [] [5]) := by
  have o0 := Own.new w #[.int .u8 6, .int .i64 a, .int .i64 b, .slice ao n c] 24
  have b0 := new_below w (.cells #[.int .u8 6, .int .i64 a, .int .i64 b, .slice ao n c] 24)
  go_enter Tryd.func26, Tryd.ntmps26
  go_upto_region 1 with fail
  generalize w.alloc (.cells #[.int .u8 6, .int .i64 a, .int .i64 b, .slice ao n c] 24) = w1 at *
  obtain ⟨x0, x1, x2, x3, xf⟩ := own4 o0
  clear o0 x3
  go_wp2
  go_ret2
  exact two_nl b0 [5] (by simp)
set_option maxHeartbeats 2000000 in
set_option maxRecDepth 100000 in
theorem rplain7 {w : World} (a b : Int) (ao : Option Addr) (n c : Nat) : Calls Tryd.prog 26 #[.agg #[.int .u8 7, .int .i64 a, .int .i64 b, .slice ao n c]] w (TwoRet w [] [0]) := by
  have o0 := Own.new w #[.int .u8 7, .int .i64 a, .int .i64 b, .slice ao n c] 24
  have b0 := new_below w (.cells #[.int .u8 7, .int .i64 a, .int .i64 b, .slice ao n c] 24)
  go_enter Tryd.func26, Tryd.ntmps26
  go_upto_region 1 with fail
  generalize w.alloc (.cells #[.int .u8 7, .int .i64 a, .int .i64 b, .slice ao n c] 24) = w1 at *
  obtain ⟨x0, x1, x2, x3, xf⟩ := own4 o0
  clear o0 x3
  go_wp2
  go_ret2
  exact two_nl b0 [0] (by simp)
set_option maxHeartbeats 2000000 in
set_option maxRecDepth 100000 in
theorem rplain8 {w : World} (a b : Int) (ao : Option Addr) (n c : Nat) : Calls Tryd.prog 26 #[.agg #[.int .u8 8, .int .i64 a, .int .i64 b, .slice ao n c]] w (TwoRet w [0] []) := by
  have o0 := Own.new w #[.int .u8 8, .int .i64 a, .int .i64 b, .slice ao n c] 24
  have b0 := new_below w (.cells #[.int .u8 8, .int .i64 a, .int .i64 b, .slice ao n c] 24)
  go_enter Tryd.func26, Tryd.ntmps26
  go_upto_region 1 with fail
  generalize w.alloc (.cells #[.int .u8 8, .int .i64 a, .int .i64 b, .slice ao n c] 24) = w1 at *
  obtain ⟨x0, x1, x2, x3, xf⟩ := own4 o0
  clear o0 x3
  go_wp2
  go_ret2
  exact two_ln b0 [0] (by simp)
set_option maxHeartbeats 2000000 in
set_option maxRecDepth 100000 in
theorem rplain9 {w : World} (a b : Int) (ao : Option Addr) (n c : Nat) : Calls Tryd.prog 26 #[.agg #[.int .u8 9, .int .i64 a, .int .i64 b, .slice ao n c]] w (TwoRet w [0] []) := by
  have o0 := Own.new w #[.int .u8 9, .int .i64 a, .int .i64 b, .slice ao n c] 24
  have b0 := new_below w (.cells #[.int .u8 9, .int .i64 a, .int .i64 b, .slice ao n c] 24)
  go_enter Tryd.func26, Tryd.ntmps26
  go_upto_region 1 with fail
  generalize w.alloc (.cells #[.int .u8 9, .int .i64 a, .int .i64 b, .slice ao n c] 24) = w1 at *
  obtain ⟨x0, x1, x2, x3, xf⟩ := own4 o0
  clear o0 x3
  go_wp2
  go_ret2
  exact two_ln b0 [0] (by simp)
set_option maxHeartbeats 2000000 in
set_option maxRecDepth 100000 in
theorem rplain10 {w : World} (a b : Int) (ao : Option Addr) (n c : Nat) : Calls Tryd.prog 26 #[.agg #[.int .u8 10, .int .i64 a, .int .i64 b, .slice ao n c]] w (TwoRet w [0] [0, 0]) := by
  have o0 := Own.new w #[.int .u8 10, .int .i64 a, .int .i64 b, .slice ao n c] 24
  have b0 := new_below w (.cells #[.int .u8 10, .int .i64 a, .int .i64 b, .slice ao n c] 24)
  go_enter Tryd.func26, Tryd.ntmps26
  go_upto_region 1 with fail
  generalize w.alloc (.cells #[.int .u8 10, .int .i64 a, .int .i64 b, .slice ao n c] 24) = w1 at *
  obtain ⟨x0, x1, x2, x3, xf⟩ := own4 o0
  clear o0 x3
  go_wp2
  go_ret2
  exact two_ll b0 [0] [0, 0] (by simp) (by simp)
end Go.Proofs.YtjfdlphkmpkjdaaDoor
namespace Go.Proofs.YtjfdlphkmpkjdaaDoor
open Go.RowKit
set_option linter.unusedVariables false

set_option maxHeartbeats 2000000 in
set_option maxRecDepth 100000 in
theorem rplain11 {w : World} (a b : Int) (ao : Option Addr) (n c : Nat) : Calls Tryd.prog 26 #[.agg #[.int .u8 11, .int .i64 a, .int .i64 b, .slice ao n c]] w (TwoRet w [a, a] [a]) := by
  have o0 := Own.new w #[.int .u8 11, .int .i64 a, .int .i64 b, .slice ao n c] 24
  have b0 := new_below w (.cells #[.int .u8 11, .int .i64 a, .int .i64 b, .slice ao n c] 24)
  go_enter Tryd.func26, Tryd.ntmps26
  go_upto_region 1 with fail
  generalize w.alloc (.cells #[.int .u8 11, .int .i64 a, .int .i64 b, .slice ao n c] 24) = w1 at *
  obtain ⟨x0, x1, x2, x3, xf⟩ := own4 o0
  clear o0 x3
  go_wp2
  go_ret2
  exact two_ll b0 [a, a] [a] (by simp) (by simp)
set_option maxHeartbeats 2000000 in
set_option maxRecDepth 100000 in
theorem rplain12 {w : World} (a b : Int) (ao : Option Addr) (n c : Nat) : Calls Tryd.prog 26 #[.agg #[.int .u8 12, .int .i64 a, .int .i64 b, .slice ao n c]] w (TwoRet w [a, a] [a]) := by
  have o0 := Own.new w #[.int .u8 12, .int .i64 a, .int .i64 b, .slice ao n c] 24
  have b0 := new_below w (.cells #[.int .u8 12, .int .i64 a, .int .i64 b, .slice ao n c] 24)
  go_enter Tryd.func26, Tryd.ntmps26
  go_upto_region 1 with fail
  generalize w.alloc (.cells #[.int .u8 12, .int .i64 a, .int .i64 b, .slice ao n c] 24) = w1 at *
  obtain ⟨x0, x1, x2, x3, xf⟩ := own4 o0
  clear o0 x3
  go_wp2
  go_ret2
  exact two_ll b0 [a, a] [a] (by simp) (by simp)
set_option maxHeartbeats 2000000 in
set_option maxRecDepth 100000 in
theorem rplain13 {w : World} (a b : Int) (ao : Option Addr) (n c : Nat) : Calls Tryd.prog 26 #[.agg #[.int .u8 13, .int .i64 a, .int .i64 b, .slice ao n c]] w (TwoRet w [a, a] [a]) := by
  have o0 := Own.new w #[.int .u8 13, .int .i64 a, .int .i64 b, .slice ao n c] 24
  have b0 := new_below w (.cells #[.int .u8 13, .int .i64 a, .int .i64 b, .slice ao n c] 24)
  go_enter Tryd.func26, Tryd.ntmps26
  go_upto_region 1 with fail
  generalize w.alloc (.cells #[.int .u8 13, .int .i64 a, .int .i64 b, .slice ao n c] 24) = w1 at *
  obtain ⟨x0, x1, x2, x3, xf⟩ := own4 o0
  clear o0 x3
  go_wp2
  go_ret2
  exact two_ll b0 [a, a] [a] (by simp) (by simp)
set_option maxHeartbeats 2000000 in
set_option maxRecDepth 100000 in
theorem rplain14 {w : World} (a b : Int) (ao : Option Addr) (n c : Nat) : Calls Tryd.prog 26 #[.agg #[.int .u8 14, .int .i64 a, .int .i64 b, .slice ao n c]] w (TwoRet w [a, a] [a]) := by
  have o0 := Own.new w #[.int .u8 14, .int .i64 a, .int .i64 b, .slice ao n c] 24
  have b0 := new_below w (.cells #[.int .u8 14, .int .i64 a, .int .i64 b, .slice ao n c] 24)
  go_enter Tryd.func26, Tryd.ntmps26
  go_upto_region 1 with fail
  generalize w.alloc (.cells #[.int .u8 14, .int .i64 a, .int .i64 b, .slice ao n c] 24) = w1 at *
  obtain ⟨x0, x1, x2, x3, xf⟩ := own4 o0
  clear o0 x3
  go_wp2
  go_ret2
  exact two_ll b0 [a, a] [a] (by simp) (by simp)
set_option maxHeartbeats 2000000 in
set_option maxRecDepth 100000 in
theorem rplain15 {w : World} (a b : Int) (ao : Option Addr) (n c : Nat) : Calls Tryd.prog 26 #[.agg #[.int .u8 15, .int .i64 a, .int .i64 b, .slice ao n c]] w (TwoRet w [a, a] [a]) := by
  have o0 := Own.new w #[.int .u8 15, .int .i64 a, .int .i64 b, .slice ao n c] 24
  have b0 := new_below w (.cells #[.int .u8 15, .int .i64 a, .int .i64 b, .slice ao n c] 24)
  go_enter Tryd.func26, Tryd.ntmps26
  go_upto_region 1 with fail
  generalize w.alloc (.cells #[.int .u8 15, .int .i64 a, .int .i64 b, .slice ao n c] 24) = w1 at *
  obtain ⟨x0, x1, x2, x3, xf⟩ := own4 o0
  clear o0 x3
  go_wp2
  go_ret2
  exact two_ll b0 [a, a] [a] (by simp) (by simp)
set_option maxHeartbeats 2000000 in
set_option maxRecDepth 100000 in
theorem rplain16 {w : World} (a b : Int) (ao : Option Addr) (n c : Nat) : Calls Tryd.prog 26 #[.agg #[.int .u8 16, .int .i64 a, .int .i64 b, .slice ao n c]] w (TwoRet w [a, a] [a]) := by
  have o0 := Own.new w #[.int .u8 16, .int .i64 a, .int .i64 b, .slice ao n c] 24
  have b0 := new_below w (.cells #[.int .u8 16, .int .i64 a, .int .i64 b, .slice ao n c] 24)
  go_enter Tryd.func26, Tryd.ntmps26
  go_upto_region 1 with fail
  generalize w.alloc (.cells #[.int .u8 16, .int .i64 a, .int .i64 b, .slice ao n c] 24) = w1 at *
  obtain ⟨x0, x1, x2, x3, xf⟩ := own4 o0
  clear o0 x3
  go_wp2
  go_ret2
  exact two_ll b0 [a, a] [a] (by simp) (by simp)
set_option maxHeartbeats 2000000 in
set_option maxRecDepth 100000 in
theorem rplain17 {w : World} (a b : Int) (ao : Option Addr) (n c : Nat) : Calls Tryd.prog 26 #[.agg #[.int .u8 17, .int .i64 a, .int .i64 b, .slice ao n c]] w (TwoRet w [a, a] [a]) := by
  have o0 := Own.new w #[.int .u8 17, .int .i64 a, .int .i64 b, .slice ao n c] 24
  have b0 := new_below w (.cells #[.int .u8 17, .int .i64 a, .int .i64 b, .slice ao n c] 24)
  go_enter Tryd.func26, Tryd.ntmps26
  go_upto_region 1 with fail
  generalize w.alloc (.cells #[.int .u8 17, .int .i64 a, .int .i64 b, .slice ao n c] 24) = w1 at *
  obtain ⟨x0, x1, x2, x3, xf⟩ := own4 o0
  clear o0 x3
  go_wp2
  go_ret2
  exact two_ll b0 [a, a] [a] (by simp) (by simp)
set_option maxHeartbeats 2000000 in
set_option maxRecDepth 100000 in
theorem rplain18 {w : World} (a b : Int) (ao : Option Addr) (n c : Nat) : Calls Tryd.prog 26 #[.agg #[.int .u8 18, .int .i64 a, .int .i64 b, .slice ao n c]] w (TwoRet w [a, a] [a]) := by
  have o0 := Own.new w #[.int .u8 18, .int .i64 a, .int .i64 b, .slice ao n c] 24
  have b0 := new_below w (.cells #[.int .u8 18, .int .i64 a, .int .i64 b, .slice ao n c] 24)
  go_enter Tryd.func26, Tryd.ntmps26
  go_upto_region 1 with fail
  generalize w.alloc (.cells #[.int .u8 18, .int .i64 a, .int .i64 b, .slice ao n c] 24) = w1 at *
  obtain ⟨x0, x1, x2, x3, xf⟩ := own4 o0
  clear o0 x3
  go_wp2
  go_ret2
  exact two_ll b0 [a, a] [a] (by simp) (by simp)
end Go.Proofs.YtjfdlphkmpkjdaaDoor
namespace Go.Proofs.YtjfdlphkmpkjdaaDoor
open Go.RowKit
set_option linter.unusedVariables false

set_option maxHeartbeats 2000000 in
set_option maxRecDepth 100000 in
theorem rplain19 {w : World} (a b : Int) (ao : Option Addr) (n c : Nat) : Calls Tryd.prog 26 #[.agg #[.int .u8 19, .int .i64 a, .int .i64 b, .slice ao n c]] w (TwoRet w [a, a] [a]) := by
  have o0 := Own.new w #[.int .u8 19, .int .i64 a, .int .i64 b, .slice ao n c] 24
  have b0 := new_below w (.cells #[.int .u8 19, .int .i64 a, .int .i64 b, .slice ao n c] 24)
  go_enter Tryd.func26, Tryd.ntmps26
  go_upto_region 1 with fail
  generalize w.alloc (.cells #[.int .u8 19, .int .i64 a, .int .i64 b, .slice ao n c] 24) = w1 at *
  obtain ⟨x0, x1, x2, x3, xf⟩ := own4 o0
  clear o0 x3
  go_wp2
  go_ret2
  exact two_ll b0 [a, a] [a] (by simp) (by simp)
set_option maxHeartbeats 2000000 in
set_option maxRecDepth 100000 in
theorem rplain20 {w : World} (a b : Int) (ao : Option Addr) (n c : Nat) : Calls Tryd.prog 26 #[.agg #[.int .u8 20, .int .i64 a, .int .i64 b, .slice ao n c]] w (TwoRet w [a, a] [a]) := by
  have o0 := Own.new w #[.int .u8 20, .int .i64 a, .int .i64 b, .slice ao n c] 24
  have b0 := new_below w (.cells #[.int .u8 20, .int .i64 a, .int .i64 b, .slice ao n c] 24)
  go_enter Tryd.func26, Tryd.ntmps26
  go_upto_region 1 with fail
  generalize w.alloc (.cells #[.int .u8 20, .int .i64 a, .int .i64 b, .slice ao n c] 24) = w1 at *
  obtain ⟨x0, x1, x2, x3, xf⟩ := own4 o0
  clear o0 x3
  go_wp2
  go_ret2
  exact two_ll b0 [a, a] [a] (by simp) (by simp)
set_option maxHeartbeats 2000000 in
set_option maxRecDepth 100000 in
theorem rplain21 {w : World} (a b : Int) (ao : Option Addr) (n c : Nat) : Calls Tryd.prog 26 #[.agg #[.int .u8 21, .int .i64 a, .int .i64 b, .slice ao n c]] w (TwoRet w [a] [a]) := by
  have o0 := Own.new w #[.int .u8 21, .int .i64 a, .int .i64 b, .slice ao n c] 24
  have b0 := new_below w (.cells #[.int .u8 21, .int .i64 a, .int .i64 b, .slice ao n c] 24)
  go_enter Tryd.func26, Tryd.ntmps26
  go_upto_region 1 with fail
  generalize w.alloc (.cells #[.int .u8 21, .int .i64 a, .int .i64 b, .slice ao n c] 24) = w1 at *
  obtain ⟨x0, x1, x2, x3, xf⟩ := own4 o0
  clear o0 x3
  go_wp2
  go_ret2
  exact two_ll b0 [a] [a] (by simp) (by simp)
set_option maxHeartbeats 2000000 in
set_option maxRecDepth 100000 in
theorem rplain22 {w : World} (a b : Int) (ao : Option Addr) (n c : Nat) : Calls Tryd.prog 26 #[.agg #[.int .u8 22, .int .i64 a, .int .i64 b, .slice ao n c]] w (TwoRet w [a] [a]) := by
  have o0 := Own.new w #[.int .u8 22, .int .i64 a, .int .i64 b, .slice ao n c] 24
  have b0 := new_below w (.cells #[.int .u8 22, .int .i64 a, .int .i64 b, .slice ao n c] 24)
  go_enter Tryd.func26, Tryd.ntmps26
  go_upto_region 1 with fail
  generalize w.alloc (.cells #[.int .u8 22, .int .i64 a, .int .i64 b, .slice ao n c] 24) = w1 at *
  obtain ⟨x0, x1, x2, x3, xf⟩ := own4 o0
  clear o0 x3
  go_wp2
  go_ret2
  exact two_ll b0 [a] [a] (by simp) (by simp)
set_option maxHeartbeats 2000000 in
set_option maxRecDepth 100000 in
theorem rplain23 {w : World} (a b : Int) (ao : Option Addr) (n c : Nat) : Calls Tryd.prog 26 #[.agg #[.int .u8 23, .int .i64 a, .int .i64 b, .slice ao n c]] w (TwoRet w [a, a] [4]) := by
  have o0 := Own.new w #[.int .u8 23, .int .i64 a, .int .i64 b, .slice ao n c] 24
  have b0 := new_below w (.cells #[.int .u8 23, .int .i64 a, .int .i64 b, .slice ao n c] 24)
  go_enter Tryd.func26, Tryd.ntmps26
  go_upto_region 1 with fail
  generalize w.alloc (.cells #[.int .u8 23, .int .i64 a, .int .i64 b, .slice ao n c] 24) = w1 at *
  obtain ⟨x0, x1, x2, x3, xf⟩ := own4 o0
  clear o0 x3
  go_wp2
  go_ret2
  exact two_ll b0 [a, a] [4] (by simp) (by simp)
set_option maxHeartbeats 2000000 in
set_option maxRecDepth 100000 in
theorem rplain24 {w : World} (a b : Int) (ao : Option Addr) (n c : Nat) : Calls Tryd.prog 26 #[.agg #[.int .u8 24, .int .i64 a, .int .i64 b, .slice ao n c]] w (TwoRet w [a, a] [4]) := by
  have o0 := Own.new w #[.int .u8 24, .int .i64 a, .int .i64 b, .slice ao n c] 24
  have b0 := new_below w (.cells #[.int .u8 24, .int .i64 a, .int .i64 b, .slice ao n c] 24)
  go_enter Tryd.func26, Tryd.ntmps26
  go_upto_region 1 with fail
  generalize w.alloc (.cells #[.int .u8 24, .int .i64 a, .int .i64 b, .slice ao n c] 24) = w1 at *
  obtain ⟨x0, x1, x2, x3, xf⟩ := own4 o0
  clear o0 x3
  go_wp2
  go_ret2
  exact two_ll b0 [a, a] [4] (by simp) (by simp)
set_option maxHeartbeats 2000000 in
set_option maxRecDepth 100000 in
theorem rplain25 {w : World} (a b : Int) (ao : Option Addr) (n c : Nat) : Calls Tryd.prog 26 #[.agg #[.int .u8 25, .int .i64 a, .int .i64 b, .slice ao n c]] w (TwoRet w [a, a] [4]) := by
  have o0 := Own.new w #[.int .u8 25, .int .i64 a, .int .i64 b, .slice ao n c] 24
  have b0 := new_below w (.cells #[.int .u8 25, .int .i64 a, .int .i64 b, .slice ao n c] 24)
  go_enter Tryd.func26, Tryd.ntmps26
  go_upto_region 1 with fail
  generalize w.alloc (.cells #[.int .u8 25, .int .i64 a, .int .i64 b, .slice ao n c] 24) = w1 at *
  obtain ⟨x0, x1, x2, x3, xf⟩ := own4 o0
  clear o0 x3
  go_wp2
  go_ret2
  exact two_ll b0 [a, a] [4] (by simp) (by simp)
set_option maxHeartbeats 2000000 in
set_option maxRecDepth 100000 in
theorem rplain26 {w : World} (a b : Int) (ao : Option Addr) (n c : Nat) : Calls Tryd.prog 26 #[.agg #[.int .u8 26, .int .i64 a, .int .i64 b, .slice ao n c]] w (TwoRet w [a, a] [4]) := by
  have o0 := Own.new w #[.int .u8 26, .int .i64 a, .int .i64 b, .slice ao n c] 24
  have b0 := new_below w (.cells #[.int .u8 26, .int .i64 a, .int .i64 b, .slice ao n c] 24)
  go_enter Tryd.func26, Tryd.ntmps26
  go_upto_region 1 with fail
  generalize w.alloc (.cells #[.int .u8 26, .int .i64 a, .int .i64 b, .slice ao n c] 24) = w1 at *
  obtain ⟨x0, x1, x2, x3, xf⟩ := own4 o0
  clear o0 x3
  go_wp2
  go_ret2
  exact two_ll b0 [a, a] [4] (by simp) (by simp)
end Go.Proofs.YtjfdlphkmpkjdaaDoor
namespace Go.Proofs.YtjfdlphkmpkjdaaDoor
open Go.RowKit
set_option linter.unusedVariables false

set_option maxHeartbeats 2000000 in
set_option maxRecDepth 100000 in
theorem rplain27 {w : World} (a b : Int) (ao : Option Addr) (n c : Nat) : Calls Tryd.prog 26 #[.agg #[.int .u8 27, .int .i64 a, .int .i64 b, .slice ao n c]] w (TwoRet w [a, a] [4]) := by
  have o0 := Own.new w #[.int .u8 27, .int .i64 a, .int .i64 b, .slice ao n c] 24
  have b0 := new_below w (.cells #[.int .u8 27, .int .i64 a, .int .i64 b, .slice ao n c] 24)
  go_enter Tryd.func26, Tryd.ntmps26
  go_upto_region 1 with fail
  generalize w.alloc (.cells #[.int .u8 27, .int .i64 a, .int .i64 b, .slice ao n c] 24) = w1 at *
  obtain ⟨x0, x1, x2, x3, xf⟩ := own4 o0
  clear o0 x3
  go_wp2
  go_ret2
  exact two_ll b0 [a, a] [4] (by simp) (by simp)
set_option maxHeartbeats 2000000 in
set_option maxRecDepth 100000 in
theorem rplain28 {w : World} (a b : Int) (ao : Option Addr) (n c : Nat) : Calls Tryd.prog 26 #[.agg #[.int .u8 28, .int .i64 a, .int .i64 b, .slice ao n c]] w (TwoRet w [a, a] [4]) := by
  have o0 := Own.new w #[.int .u8 28, .int .i64 a, .int .i64 b, .slice ao n c] 24
  have b0 := new_below w (.cells #[.int .u8 28, .int .i64 a, .int .i64 b, .slice ao n c] 24)
  go_enter Tryd.func26, Tryd.ntmps26
  go_upto_region 1 with fail
  generalize w.alloc (.cells #[.int .u8 28, .int .i64 a, .int .i64 b, .slice ao n c] 24) = w1 at *
  obtain ⟨x0, x1, x2, x3, xf⟩ := own4 o0
  clear o0 x3
  go_wp2
  go_ret2
  exact two_ll b0 [a, a] [4] (by simp) (by simp)
set_option maxHeartbeats 2000000 in
set_option maxRecDepth 100000 in
theorem rplain29 {w : World} (a b : Int) (ao : Option Addr) (n c : Nat) : Calls Tryd.prog 26 #[.agg #[.int .u8 29, .int .i64 a, .int .i64 b, .slice ao n c]] w (TwoRet w [a] [b]) := by
  have o0 := Own.new w #[.int .u8 29, .int .i64 a, .int .i64 b, .slice ao n c] 24
  have b0 := new_below w (.cells #[.int .u8 29, .int .i64 a, .int .i64 b, .slice ao n c] 24)
  go_enter Tryd.func26, Tryd.ntmps26
  go_upto_region 1 with fail
  generalize w.alloc (.cells #[.int .u8 29, .int .i64 a, .int .i64 b, .slice ao n c] 24) = w1 at *
  obtain ⟨x0, x1, x2, x3, xf⟩ := own4 o0
  have x2a : ∀ o, (w1.alloc o).cell? ⟨w.heap.size, 2, none⟩ = some (.int .i64 b) := fun o => (own4 (o0.alloc o)).2.2.1
  clear o0 x3
  go_upto_region 21 with fail
  go_region
  all_goals (
    go_wp2
    go_ret2
    first
      | exact two_drew (two_ll b0 [a] [b] (by simp) (by simp))
      | exact two_drew (two_lk b0 [a] [b] (by simp) (by simp)))
set_option maxHeartbeats 2000000 in
set_option maxRecDepth 100000 in
theorem rplain30 {w : World} (a b : Int) (ao : Option Addr) (n c : Nat) : Calls Tryd.prog 26 #[.agg #[.int .u8 30, .int .i64 a, .int .i64 b, .slice ao n c]] w (TwoRet w [4] [4]) := by
  have o0 := Own.new w #[.int .u8 30, .int .i64 a, .int .i64 b, .slice ao n c] 24
  have b0 := new_below w (.cells #[.int .u8 30, .int .i64 a, .int .i64 b, .slice ao n c] 24)
  go_enter Tryd.func26, Tryd.ntmps26
  go_upto_region 1 with fail
  generalize w.alloc (.cells #[.int .u8 30, .int .i64 a, .int .i64 b, .slice ao n c] 24) = w1 at *
  obtain ⟨x0, x1, x2, x3, xf⟩ := own4 o0
  clear o0 x3
  go_wp2
  go_ret2
  exact two_ll b0 [4] [4] (by simp) (by simp)
set_option maxHeartbeats 2000000 in
set_option maxRecDepth 100000 in
theorem rplain31 {w : World} (a b : Int) (ao : Option Addr) (n c : Nat) : Calls Tryd.prog 26 #[.agg #[.int .u8 31, .int .i64 a, .int .i64 b, .slice ao n c]] w (TwoRet w [5, 5] [5]) := by
  have o0 := Own.new w #[.int .u8 31, .int .i64 a, .int .i64 b, .slice ao n c] 24
  have b0 := new_below w (.cells #[.int .u8 31, .int .i64 a, .int .i64 b, .slice ao n c] 24)
  go_enter Tryd.func26, Tryd.ntmps26
  go_upto_region 1 with fail
  generalize w.alloc (.cells #[.int .u8 31, .int .i64 a, .int .i64 b, .slice ao n c] 24) = w1 at *
  obtain ⟨x0, x1, x2, x3, xf⟩ := own4 o0
  clear o0 x3
  go_wp2
  go_ret2
  exact two_ll b0 [5, 5] [5] (by simp) (by simp)
set_option maxHeartbeats 2000000 in
set_option maxRecDepth 100000 in
theorem rplain32 {w : World} (a b : Int) (ao : Option Addr) (n c : Nat) : Calls Tryd.prog 26 #[.agg #[.int .u8 32, .int .i64 a, .int .i64 b, .slice ao n c]] w (TwoRet w [5] [3]) := by
  have o0 := Own.new w #[.int .u8 32, .int .i64 a, .int .i64 b, .slice ao n c] 24
  have b0 := new_below w (.cells #[.int .u8 32, .int .i64 a, .int .i64 b, .slice ao n c] 24)
  go_enter Tryd.func26, Tryd.ntmps26
  go_upto_region 1 with fail
  generalize w.alloc (.cells #[.int .u8 32, .int .i64 a, .int .i64 b, .slice ao n c] 24) = w1 at *
  obtain ⟨x0, x1, x2, x3, xf⟩ := own4 o0
  clear o0 x3
  go_wp2
  go_ret2
  exact two_ll b0 [5] [3] (by simp) (by simp)
set_option maxHeartbeats 2000000 in
set_option maxRecDepth 100000 in
theorem rplain33 {w : World} (a b : Int) (ao : Option Addr) (n c : Nat) : Calls Tryd.prog 26 #[.agg #[.int .u8 33, .int .i64 a, .int .i64 b, .slice ao n c]] w (TwoRet w [5, 3] [2]) := by
  have o0 := Own.new w #[.int .u8 33, .int .i64 a, .int .i64 b, .slice ao n c] 24
  have b0 := new_below w (.cells #[.int .u8 33, .int .i64 a, .int .i64 b, .slice ao n c] 24)
  go_enter Tryd.func26, Tryd.ntmps26
  go_upto_region 1 with fail
  generalize w.alloc (.cells #[.int .u8 33, .int .i64 a, .int .i64 b, .slice ao n c] 24) = w1 at *
  obtain ⟨x0, x1, x2, x3, xf⟩ := own4 o0
  clear o0 x3
  go_wp2
  go_ret2
  exact two_ll b0 [5, 3] [2] (by simp) (by simp)
end Go.Proofs.YtjfdlphkmpkjdaaDoor
namespace Go.Proofs.YtjfdlphkmpkjdaaDoor
open Go.RowKit
set_option linter.unusedVariables false

set_option maxHeartbeats 2000000 in
set_option maxRecDepth 100000 in
theorem rplain34 {w : World} (a b : Int) (ao : Option Addr) (n c : Nat) : Calls Tryd.prog 26 #[.agg #[.int .u8 34, .int .i64 a, .int .i64 b, .slice ao n c]] w (TwoRet w [5, 3, 3] [5]) := by
  have o0 := Own.new w #[.int .u8 34, .int .i64 a, .int .i64 b, .slice ao n c] 24
  have b0 := new_below w (.cells #[.int .u8 34, .int .i64 a, .int .i64 b, .slice ao n c] 24)
  go_enter Tryd.func26, Tryd.ntmps26
  go_upto_region 1 with fail
  generalize w.alloc (.cells #[.int .u8 34, .int .i64 a, .int .i64 b, .slice ao n c] 24) = w1 at *
  obtain ⟨x0, x1, x2, x3, xf⟩ := own4 o0
  clear o0 x3
  go_wp2
  go_ret2
  exact two_ll b0 [5, 3, 3] [5] (by simp) (by simp)
set_option maxHeartbeats 2000000 in
set_option maxRecDepth 100000 in
theorem rplain35 {w : World} (a b : Int) (ao : Option Addr) (n c : Nat) : Calls Tryd.prog 26 #[.agg #[.int .u8 35, .int .i64 a, .int .i64 b, .slice ao n c]] w (TwoRet w [2] [5]) := by
  have o0 := Own.new w #[.int .u8 35, .int .i64 a, .int .i64 b, .slice ao n c] 24
  have b0 := new_below w (.cells #[.int .u8 35, .int .i64 a, .int .i64 b, .slice ao n c] 24)
  go_enter Tryd.func26, Tryd.ntmps26
  go_upto_region 1 with fail
  generalize w.alloc (.cells #[.int .u8 35, .int .i64 a, .int .i64 b, .slice ao n c] 24) = w1 at *
  obtain ⟨x0, x1, x2, x3, xf⟩ := own4 o0
  clear o0 x3
  go_wp2
  go_ret2
  exact two_ll b0 [2] [5] (by simp) (by simp)
set_option maxHeartbeats 2000000 in
set_option maxRecDepth 100000 in
theorem rplain46 {w : World} (a b : Int) (ao : Option Addr) (n c : Nat) : Calls Tryd.prog 26 #[.agg #[.int .u8 46, .int .i64 a, .int .i64 b, .slice ao n c]] w (TwoRet w [] []) := by
  have o0 := Own.new w #[.int .u8 46, .int .i64 a, .int .i64 b, .slice ao n c] 24
  have b0 := new_below w (.cells #[.int .u8 46, .int .i64 a, .int .i64 b, .slice ao n c] 24)
  go_enter Tryd.func26, Tryd.ntmps26
  go_upto_region 1 with fail
  generalize w.alloc (.cells #[.int .u8 46, .int .i64 a, .int .i64 b, .slice ao n c] 24) = w1 at *
  obtain ⟨x0, x1, x2, x3, xf⟩ := own4 o0
  clear o0 x3
  go_wp2
  go_ret2
  exact two_nn b0
set_option maxHeartbeats 2000000 in
set_option maxRecDepth 100000 in
theorem rplain47 {w : World} (a b : Int) (ao : Option Addr) (n c : Nat) : Calls Tryd.prog 26 #[.agg #[.int .u8 47, .int .i64 a, .int .i64 b, .slice ao n c]] w (TwoRet w [4] []) := by
  have o0 := Own.new w #[.int .u8 47, .int .i64 a, .int .i64 b, .slice ao n c] 24
  have b0 := new_below w (.cells #[.int .u8 47, .int .i64 a, .int .i64 b, .slice ao n c] 24)
  go_enter Tryd.func26, Tryd.ntmps26
  go_upto_region 1 with fail
  generalize w.alloc (.cells #[.int .u8 47, .int .i64 a, .int .i64 b, .slice ao n c] 24) = w1 at *
  obtain ⟨x0, x1, x2, x3, xf⟩ := own4 o0
  clear o0 x3
  go_wp2
  go_ret2
  exact two_ln b0 [4] (by simp)
set_option maxHeartbeats 2000000 in
set_option maxRecDepth 100000 in
theorem rplain48 {w : World} (a b : Int) (ao : Option Addr) (n c : Nat) : Calls Tryd.prog 26 #[.agg #[.int .u8 48, .int .i64 a, .int .i64 b, .slice ao n c]] w (TwoRet w [4] []) := by
  have o0 := Own.new w #[.int .u8 48, .int .i64 a, .int .i64 b, .slice ao n c] 24
  have b0 := new_below w (.cells #[.int .u8 48, .int .i64 a, .int .i64 b, .slice ao n c] 24)
  go_enter Tryd.func26, Tryd.ntmps26
  go_upto_region 1 with fail
  generalize w.alloc (.cells #[.int .u8 48, .int .i64 a, .int .i64 b, .slice ao n c] 24) = w1 at *
  obtain ⟨x0, x1, x2, x3, xf⟩ := own4 o0
  clear o0 x3
  go_wp2
  go_ret2
  exact two_ln b0 [4] (by simp)
set_option maxHeartbeats 2000000 in
set_option maxRecDepth 100000 in
theorem rplain49 {w : World} (a b : Int) (ao : Option Addr) (n c : Nat) : Calls Tryd.prog 26 #[.agg #[.int .u8 49, .int .i64 a, .int .i64 b, .slice ao n c]] w (TwoRet w [a] []) := by
  have o0 := Own.new w #[.int .u8 49, .int .i64 a, .int .i64 b, .slice ao n c] 24
  have b0 := new_below w (.cells #[.int .u8 49, .int .i64 a, .int .i64 b, .slice ao n c] 24)
  go_enter Tryd.func26, Tryd.ntmps26
  go_upto_region 1 with fail
  generalize w.alloc (.cells #[.int .u8 49, .int .i64 a, .int .i64 b, .slice ao n c] 24) = w1 at *
  obtain ⟨x0, x1, x2, x3, xf⟩ := own4 o0
  clear o0 x3
  go_wp2
  go_ret2
  exact two_ln b0 [a] (by simp)
set_option maxHeartbeats 2000000 in
set_option maxRecDepth 100000 in
theorem rplain51 {w : World} (a b : Int) (ao : Option Addr) (n c : Nat) : Calls Tryd.prog 26 #[.agg #[.int .u8 51, .int .i64 a, .int .i64 b, .slice ao n c]] w (TwoRet w [] []) := by
  have o0 := Own.new w #[.int .u8 51, .int .i64 a, .int .i64 b, .slice ao n c] 24
  have b0 := new_below w (.cells #[.int .u8 51, .int .i64 a, .int .i64 b, .slice ao n c] 24)
  go_enter Tryd.func26, Tryd.ntmps26
  go_upto_region 1 with fail
  generalize w.alloc (.cells #[.int .u8 51, .int .i64 a, .int .i64 b, .slice ao n c] 24) = w1 at *
  obtain ⟨x0, x1, x2, x3, xf⟩ := own4 o0
  clear o0 x3
  go_wp2
  go_ret2
  exact two_nn b0
set_option maxHeartbeats 2000000 in
set_option maxRecDepth 100000 in
theorem rplain52 {w : World} (a b : Int) (ao : Option Addr) (n c : Nat) : Calls Tryd.prog 26 #[.agg #[.int .u8 52, .int .i64 a, .int .i64 b, .slice ao n c]] w (TwoRet w [] []) := by
  have o0 := Own.new w #[.int .u8 52, .int .i64 a, .int .i64 b, .slice ao n c] 24
  have b0 := new_below w (.cells #[.int .u8 52, .int .i64 a, .int .i64 b, .slice ao n c] 24)
  go_enter Tryd.func26, Tryd.ntmps26
  go_upto_region 1 with fail
  generalize w.alloc (.cells #[.int .u8 52, .int .i64 a, .int .i64 b, .slice ao n c] 24) = w1 at *
  obtain ⟨x0, x1, x2, x3, xf⟩ := own4 o0
  clear o0 x3
  go_wp2
  go_ret2
  exact two_nn b0
end Go.Proofs.YtjfdlphkmpkjdaaDoor
