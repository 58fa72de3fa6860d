/-
  A SCOPE OF THE CALL'S OWN: each call on it, as one step; the law's 'works'.
-/
import Derived.Test.YtnnajgbkpilaaaaFind
import Derived.Test.YtnnajgbkpilaaaaLeave
import Derived.Test.YtnnajgbkpilaaaaTarget
namespace Go.Proofs.Ytnnajgbkpilaaaa
open Go.RowKit
set_option linter.unusedVariables false

/-- All of its blocks lie from B on; what lies below is as it was in A. -/
def Sl (B : Nat) (A W : World) (p : Nat) (m : M) : Prop := ∃ F, ScAt W p m F ∧ (∀ b, F b → B ≤ b) ∧ Below B A W ∧ B ≤ A.heap.size
theorem Sl.next {B : Nat} {A W W' : World} {p : Nat} {m m' : M} {F : Nat → Prop} (hF : ∀ b, F b → B ≤ b) (hB : Below B A W) (hA : B ≤ A.heap.size) (h : ScRet W p m' F W') : Sl B A W' p m' := by
  obtain ⟨F', h1, h2, h3⟩ := h
  have hs := hB.size
  refine ⟨F', h1, fun b hb => ?_, ⟨h3.os.trans hB.os, h3.tape.trans hB.tape, h3.output.trans hB.output, Nat.le_trans hB.size h3.size, fun k hk => ?_⟩, hA⟩
  · rcases h2 b hb with q | q
    · exact hF b q
    · omega
  · exact (h3.block k (by omega) fun q => by have := hF k q; omega).trans (hB.block k hk)
theorem Sl.below {B : Nat} {A W W' : World} {p : Nat} {m : M} (h : Sl B A W p m) (hb : Below W.heap.size W W') : Sl B A W' p m := by
  obtain ⟨F, h1, h2, h3, h4⟩ := h
  have := h3.size
  exact ⟨F, h1.below hb, h2, h3.trans (hb.mono (by omega)), h4⟩
theorem Sl.inv {B : Nat} {A W : World} {p : Nat} {m : M} (h : Sl B A W p m) : Inv m := by obtain ⟨F, h1, _⟩ := h; exact h1.inv
theorem Sl.bel {B : Nat} {A W : World} {p : Nat} {m : M} (h : Sl B A W p m) : Below B A W := by obtain ⟨F, h1, _, h3, _⟩ := h; exact h3
theorem slNew (w : World) : Calls Try.prog 8 #[] w fun e w' => e = .returned (.pointer (some ⟨w.heap.size, 0, none⟩)) ∧ Sl w.heap.size w w' w.heap.size M.new := by
  refine (newS w).mono ?_
  rintro e w' ⟨rfl, F, h1, h2, h3⟩
  exact ⟨rfl, F, h1, h2, h3, Nat.le_refl _⟩
theorem slOpen {B : Nat} {A W : World} {p : Nat} {m : M} (h : Sl B A W p m) (hn : m.out.length ≤ 100000) : Calls Try.prog 20 #[.pointer (some ⟨p, 0, none⟩)] W fun e w' => e = .returned (.int .i64 (m.out.length + 2 : Int)) ∧ Sl B A w' p m.opened := by
  obtain ⟨F, h1, h2, h3, h4⟩ := h
  refine (openS h1 hn).mono ?_
  rintro e w' ⟨rfl, hr⟩
  exact ⟨rfl, Sl.next (m := m) h2 h3 h4 hr⟩
theorem slClose {B : Nat} {A W : World} {p : Nat} {m : M} (h : Sl B A W p m) (hn : m.out.length ≤ 100000) : Calls Try.prog 21 #[.pointer (some ⟨p, 0, none⟩)] W fun e w' => e = .returned (.bool m.closes) ∧ Sl B A w' p m.closed := by
  obtain ⟨F, h1, h2, h3, h4⟩ := h
  refine (closeS h1 hn).mono ?_
  rintro e w' ⟨rfl, hr⟩
  exact ⟨rfl, Sl.next (m := m) h2 h3 h4 hr⟩
theorem slDecl {B : Nat} {A W : World} {p : Nat} {m : M} (h : Sl B A W p m) (hn : m.out.length ≤ 100000) (nm : ByteArray) (ty : Int) : Calls Try.prog 16 #[.pointer (some ⟨p, 0, none⟩), .string nm, .int .i64 ty] W fun e w' => e = .returned (.tuple #[.int .i64 (m.decV nm : Int), .int .i64 (m.decE nm : Int)]) ∧ Sl B A w' p (m.declared nm ty) := by
  obtain ⟨F, h1, h2, h3, h4⟩ := h
  refine (declS h1 hn nm ty).mono ?_
  rintro e w' ⟨rfl, hr⟩
  exact ⟨rfl, Sl.next (m := m) h2 h3 h4 hr⟩
theorem slFind {B : Nat} {A W : World} {p : Nat} {m : M} (h : Sl B A W p m) (nm : ByteArray) : Calls Try.prog 19 #[.pointer (some ⟨p, 0, none⟩), .string nm] W fun e w' => e = .returned (m.findV nm) ∧ Sl B A w' p m := by
  have hs := h
  obtain ⟨F, h1, h2, h3, h4⟩ := h
  refine (findS h1 nm).mono ?_
  rintro e w' ⟨rfl, hr⟩
  exact ⟨rfl, hs.below hr⟩
theorem slEnter {B : Nat} {A W : World} {p : Nat} {m : M} (h : Sl B A W p m) (hn : m.turns.length ≤ 100000) (hN : m.next ≤ 100000) (nm : ByteArray) (hsz : nm.size ≤ maxLen) (b : Bool) : Calls Try.prog 17 #[.pointer (some ⟨p, 0, none⟩), .string nm, .bool b] W fun e w' => e = .returned (.tuple #[.int .i64 (m.entV nm : Int), .int .i64 (m.entE nm : Int)]) ∧ Sl B A w' p (m.entered nm b) := by
  obtain ⟨F, h1, h2, h3, h4⟩ := h
  refine (enterS h1 hn hN nm hsz b).mono ?_
  rintro e w' ⟨rfl, hr⟩
  exact ⟨rfl, Sl.next (m := m) h2 h3 h4 hr⟩
theorem slLeave {B : Nat} {A W : World} {p : Nat} {m : M} (h : Sl B A W p m) (hn : m.turns.length ≤ 100000) : Calls Try.prog 22 #[.pointer (some ⟨p, 0, none⟩)] W fun e w' => e = .returned (.bool m.leaves) ∧ Sl B A w' p m.left := by
  obtain ⟨F, h1, h2, h3, h4⟩ := h
  refine (leaveS h1 hn).mono ?_
  rintro e w' ⟨rfl, hr⟩
  exact ⟨rfl, Sl.next (m := m) h2 h3 h4 hr⟩
theorem slTarget {B : Nat} {A W : World} {p : Nat} {m : M} (h : Sl B A W p m) (hn : m.turns.length ≤ 100000) (nm : ByteArray) (hsz : nm.size ≤ maxLen) (b : Bool) : Calls Try.prog 18 #[.pointer (some ⟨p, 0, none⟩), .string nm, .bool b] W fun e w' => e = .returned (.tuple #[.int .i64 (m.tgtV nm b : Int), .int .i64 (m.tgtE nm b : Int)]) ∧ Sl B A w' p m := by
  have hs := h
  obtain ⟨F, h1, h2, h3, h4⟩ := h
  refine (targetS h1 hn nm hsz b).mono ?_
  rintro e w' ⟨rfl, hr⟩
  exact ⟨rfl, hs.below hr⟩
def bA : ByteArray := ⟨#[97]⟩
def bL : ByteArray := ⟨#[76]⟩
def wk1 : M := M.new.declared bA 7
def wk2 : M := wk1.opened
def wk3 : M := wk2.declared bA 8
def wk4 : M := wk3.declared bA 9
def wk5 : M := wk4.closed
def wk6 : M := wk5.entered bL true
set_option maxRecDepth 100000 in
set_option maxHeartbeats 2000000 in
theorem works_as (w : World) : Calls Try.prog 15 #[] w fun e w' => e = .returned (.bool true) ∧ Below w.heap.size w w' := by
  have hN := slNew w
  go_enter Try.func15, Try.ntmps15
  go_upto_region 4 with (go_at_call 8; refine hN.mono ?_; rintro e w1 ⟨rfl, h1⟩)
  have c1 : Calls Try.prog 16 #[.pointer (some ⟨w.heap.size, 0, none⟩), .string ⟨#[97]⟩, .int .i64 7] w1 fun e w' => e = .returned (.tuple #[.int .i64 0, .int .i64 0]) ∧ Sl w.heap.size w w' w.heap.size wk1 := slDecl h1 (by decide) bA 7
  clear h1 hN
  go_upto_region 5 with (go_at_call 16; refine c1.mono ?_; rintro e w2 ⟨rfl, h2⟩)
  clear c1
  have c2 : Calls Try.prog 20 #[.pointer (some ⟨w.heap.size, 0, none⟩)] w2 fun e w' => e = .returned (.int .i64 2) ∧ Sl w.heap.size w w' w.heap.size wk2 := slOpen h2 (by decide)
  clear h2
  go_upto_region 6 with (go_at_call 20; refine c2.mono ?_; rintro e w3 ⟨rfl, h3⟩)
  clear c2
  have c3 : Calls Try.prog 16 #[.pointer (some ⟨w.heap.size, 0, none⟩), .string ⟨#[97]⟩, .int .i64 8] w3 fun e w' => e = .returned (.tuple #[.int .i64 1, .int .i64 0]) ∧ Sl w.heap.size w w' w.heap.size wk3 := slDecl h3 (by decide) bA 8
  clear h3
  go_upto_region 7 with (go_at_call 16; refine c3.mono ?_; rintro e w4 ⟨rfl, h4⟩)
  clear c3
  have c4 : Calls Try.prog 19 #[.pointer (some ⟨w.heap.size, 0, none⟩), .string ⟨#[97]⟩] w4 fun e w' => e = .returned (.tuple #[.int .i64 1, .int .i64 8, .bool true]) ∧ Sl w.heap.size w w' w.heap.size wk3 := slFind h4 bA
  clear h4
  go_upto_region 8 with (go_at_call 19; refine c4.mono ?_; rintro e w5 ⟨rfl, h5⟩)
  clear c4
  have c5 : Calls Try.prog 16 #[.pointer (some ⟨w.heap.size, 0, none⟩), .string ⟨#[97]⟩, .int .i64 9] w5 fun e w' => e = .returned (.tuple #[.int .i64 0, .int .i64 70]) ∧ Sl w.heap.size w w' w.heap.size wk4 := slDecl h5 (by decide) bA 9
  clear h5
  go_upto_region 9 with (go_at_call 16; refine c5.mono ?_; rintro e w6 ⟨rfl, h6⟩)
  clear c5
  have c6 : Calls Try.prog 21 #[.pointer (some ⟨w.heap.size, 0, none⟩)] w6 fun e w' => e = .returned (.bool true) ∧ Sl w.heap.size w w' w.heap.size wk5 := slClose h6 (by decide)
  clear h6
  go_upto_region 10 with (go_at_call 21; refine c6.mono ?_; rintro e w7 ⟨rfl, h7⟩)
  clear c6
  have c7 : Calls Try.prog 19 #[.pointer (some ⟨w.heap.size, 0, none⟩), .string ⟨#[97]⟩] w7 fun e w' => e = .returned (.tuple #[.int .i64 0, .int .i64 7, .bool true]) ∧ Sl w.heap.size w w' w.heap.size wk5 := slFind h7 bA
  clear h7
  go_upto_region 11 with (go_at_call 19; refine c7.mono ?_; rintro e w8 ⟨rfl, h8⟩)
  clear c7
  have c8 : Calls Try.prog 17 #[.pointer (some ⟨w.heap.size, 0, none⟩), .string ⟨#[76]⟩, .bool true] w8 fun e w' => e = .returned (.tuple #[.int .i64 0, .int .i64 0]) ∧ Sl w.heap.size w w' w.heap.size wk6 := slEnter h8 (by decide) (by decide) bL (by unfold maxLen; decide) true
  clear h8
  go_upto_region 12 with (go_at_call 17; refine c8.mono ?_; rintro e w9 ⟨rfl, h9⟩)
  clear c8
  have c9 : Calls Try.prog 18 #[.pointer (some ⟨w.heap.size, 0, none⟩), .string ⟨#[]⟩, .bool true] w9 fun e w' => e = .returned (.tuple #[.int .i64 0, .int .i64 0]) ∧ Sl w.heap.size w w' w.heap.size wk6 := slTarget h9 (by decide) empt (by unfold maxLen; decide) true
  clear h9
  go_upto_region 13 with (go_at_call 18; refine c9.mono ?_; rintro e wA ⟨rfl, hA⟩)
  clear c9
  have cA : Calls Try.prog 21 #[.pointer (some ⟨w.heap.size, 0, none⟩)] wA fun e w' => e = .returned (.bool false) ∧ Sl w.heap.size w w' w.heap.size wk6.closed := slClose hA (by decide)
  clear hA
  go_wp2_with (go_at_call 21; refine cA.mono ?_; rintro e wB ⟨rfl, hB⟩)
  go_ret
  exact ⟨rfl, hB.bel⟩
end Go.Proofs.Ytnnajgbkpilaaaa
