/-
  A HEAP BESIDE WHAT CAME IN: each call on it as one step.
-/
import Derived.Test.YtchamkiffkngjaaType
namespace Go.Proofs.Ytchamkiffkngjaa
open Go.RowKit
set_option linter.unusedVariables false

/-- All its blocks are newer than A; those of A are as they were. -/
def Hs (A W : World) (p : Nat) (m : M) : Prop := ∃ F, HAt W p m F ∧ (∀ b, F b → A.heap.size ≤ b) ∧ Below A.heap.size A W
theorem Hs.next {A W W' : World} {p : Nat} {m' : M} {F : Nat → Prop} (hF : ∀ b, F b → A.heap.size ≤ b) (hB : Below A.heap.size A W) (h : HRet W p m' F W') : Hs A W' p m' := by
  obtain ⟨F', h1, h2, h3⟩ := h
  have hs := hB.size
  refine ⟨F', h1, fun b hb => ?_, Fr.below ((Fr.of hB).then h3 fun i hi q => by have := hF i q; omega)⟩
  rcases h2 b hb with q | q
  · exact hF b q
  · omega
theorem Hs.inv {A W : World} {p : Nat} {m : M} (h : Hs A W p m) : Inv m := by obtain ⟨F, h1, _⟩ := h; exact h1.inv
theorem Hs.bel {A W : World} {p : Nat} {m : M} (h : Hs A W p m) : Below A.heap.size A W := by obtain ⟨F, _, _, h3⟩ := h; exact h3
theorem Hs.below {A W W' : World} {p : Nat} {m : M} (h : Hs A W p m) (hb : Below W.heap.size W W') : Hs A W' p m := by
  obtain ⟨F, h1, h2, h3⟩ := h
  exact ⟨F, h1.below hb, h2, h3.trans (hb.mono h3.size)⟩
theorem hsNew (w : World) (l : Int) (h1 : -9223372036854775808 ≤ l) (h2 : l < 9223372036854775808) : Calls Try.prog 4 #[.int .i64 l] w fun e w' => e = .returned (ptr w.heap.size) ∧ Hs w w' w.heap.size (M.new l) := newS w l h1 h2
theorem hsConst {A W : World} {p : Nat} {m : M} (h : Hs A W p m) (hn : m.ths.length ≤ 100000) (s : ByteArray) (hs : s.size ≤ 281474976710656) : Calls Try.prog 5 #[ptr p, .string s] W fun e w' => e = .returned (.int .u64 ((m.ths.length : Int) + 1)) ∧ Hs A w' p (m.keep (tText s)) := by
  obtain ⟨F, h1, h2, h3⟩ := h
  refine (constS h1 hn s hs).mono ?_
  rintro e w' ⟨rfl, hr⟩
  exact ⟨rfl, Hs.next h2 h3 hr⟩
theorem hsText {A W : World} {p : Nat} {m : M} (h : Hs A W p m) (hn : m.ths.length ≤ 100000) (s : ByteArray) (hs : s.size ≤ maxLen) : Calls Try.prog 7 #[ptr p, .string s] W fun e w' => e = .returned (.tuple #[.int .u64 (m.textR s), .int .i64 (m.textT s)]) ∧ Hs A w' p (m.texted s) := by
  obtain ⟨F, h1, h2, h3⟩ := h
  refine (textS h1 hn s hs).mono ?_
  rintro e w' ⟨rfl, hr⟩
  exact ⟨rfl, Hs.next h2 h3 hr⟩
theorem hsRecord {A W : World} {p : Nat} {m : M} (h : Hs A W p m) (hn : m.ths.length ≤ 100000) (t : Int) (ao : Option Addr) (cap : Nat) (ws : List Int) (hw : WordsAt A ao cap ws) (hl : ws.length ≤ 10000000) :
    Calls Try.prog 8 #[ptr p, .int .i64 t, .slice ao ws.length cap] W fun e w' => e = .returned (.tuple #[.int .u64 (m.madeR (1 + ws.length)), .int .i64 (m.madeT (1 + ws.length))]) ∧ Hs A w' p (m.made (tRec t ws) (1 + ws.length)) := by
  obtain ⟨F, h1, h2, h3⟩ := h
  refine (recordS h1 hn t ao cap ws (hw.below h3) (fun hws b o e hb q => ?_) hl).mono ?_
  · rcases hw.cell with x | ⟨b', o', e', hb', _⟩
    · exact hws x
    · rw [e] at e'; cases e'
      have := h2 b q; omega
  · rintro e w' ⟨rfl, hr⟩
    exact ⟨rfl, Hs.next h2 h3 hr⟩
theorem hsEmpty {A W : World} {p : Nat} {m : M} (h : Hs A W p m) (hn : m.ths.length ≤ 100000) (t : Int) : Calls Try.prog 11 #[ptr p, .int .i64 t] W fun e w' => e = .returned (.tuple #[.int .u64 (m.madeR 1), .int .i64 (m.madeT 1)]) ∧ Hs A w' p (m.made (tGrow t) 1) := by
  obtain ⟨F, h1, h2, h3⟩ := h
  refine (emptyS h1 hn t).mono ?_
  rintro e w' ⟨rfl, hr⟩
  exact ⟨rfl, Hs.next h2 h3 hr⟩
theorem hsGet {A W : World} {p : Nat} {m : M} (h : Hs A W p m) (hn : m.ths.length ≤ 1000000) (ref i : Int) (h0 : 0 ≤ ref) (h1 : ref < 18446744073709551616) (hi1 : -9223372036854775808 ≤ i) (hi2 : i < 9223372036854775808) : Calls Try.prog 9 #[ptr p, .int .u64 ref, .int .i64 i] W fun e w' => e = .returned (.tuple #[.int .u64 (m.getV ref i), .int .i64 (m.getT ref i)]) ∧ W = w' := by
  obtain ⟨F, k1, _, _⟩ := h
  exact getS k1 hn ref i h0 h1 hi1 hi2
theorem hsSet {A W : World} {p : Nat} {m : M} (h : Hs A W p m) (hn : m.ths.length ≤ 1000000) (ref i x : Int) (h0 : 0 ≤ ref) (h1 : ref < 18446744073709551616) (hi1 : -9223372036854775808 ≤ i) (hi2 : i < 9223372036854775808) (hx : 0 ≤ x ∧ x < 18446744073709551616) : Calls Try.prog 10 #[ptr p, .int .u64 ref, .int .i64 i, .int .u64 x] W fun e w' => e = .returned (.int .i64 (m.getT ref i)) ∧ Hs A w' p (m.put ref i x) := by
  obtain ⟨F, k1, k2, k3⟩ := h
  refine (setS k1 hn ref i x h0 h1 hi1 hi2 hx).mono ?_
  rintro e w' ⟨rfl, hr⟩
  exact ⟨rfl, Hs.next k2 k3 hr⟩
theorem hsPush {A W : World} {p : Nat} {m : M} (h : Hs A W p m) (hn : m.ths.length ≤ 1000000) (ref x : Int) (h0 : 0 ≤ ref) (h1 : ref < 18446744073709551616) (hx : 0 ≤ x ∧ x < 18446744073709551616) : Calls Try.prog 12 #[ptr p, .int .u64 ref, .int .u64 x] W fun e w' => e = .returned (.int .i64 (m.pushT ref)) ∧ Hs A w' p (m.pushed ref x) := by
  obtain ⟨F, k1, k2, k3⟩ := h
  refine (pushS k1 hn ref x h0 h1 hx).mono ?_
  rintro e w' ⟨rfl, hr⟩
  exact ⟨rfl, Hs.next k2 k3 hr⟩
theorem hsDrop {A W : World} {p : Nat} {m : M} (h : Hs A W p m) (hn : m.ths.length ≤ 1000000) (ref : Int) (h0 : 0 ≤ ref) (h1 : ref < 18446744073709551616) : Calls Try.prog 13 #[ptr p, .int .u64 ref] W fun e w' => e = .returned (.tuple #[.int .u64 (m.dropV ref), .int .i64 (m.dropT ref)]) ∧ Hs A w' p (m.dropped ref) := by
  obtain ⟨F, k1, k2, k3⟩ := h
  refine (dropS k1 hn ref h0 h1).mono ?_
  rintro e w' ⟨rfl, hr⟩
  exact ⟨rfl, Hs.next k2 k3 hr⟩
theorem hsLen {A W : World} {p : Nat} {m : M} (h : Hs A W p m) (hn : m.ths.length ≤ 1000000) (ref : Int) (h0 : 0 ≤ ref) (h1 : ref < 18446744073709551616) : Calls Try.prog 17 #[ptr p, .int .u64 ref] W fun e w' => e = .returned (.tuple #[.int .i64 ((m.at ref).len : Int), .bool (decide ((m.at ref).kind ≠ 0))]) ∧ W = w' := by
  obtain ⟨F, k1, _, _⟩ := h
  exact lenS k1 hn ref h0 h1
theorem hsType {A W : World} {p : Nat} {m : M} (h : Hs A W p m) (hn : m.ths.length ≤ 1000000) (ref : Int) (h0 : 0 ≤ ref) (h1 : ref < 18446744073709551616) : Calls Try.prog 16 #[ptr p, .int .u64 ref] W fun e w' => e = .returned (.int .i64 (m.at ref).typ) ∧ Hs A w' p m := by
  have hs := h
  obtain ⟨F, k1, _, _⟩ := h
  refine (typeS k1 hn ref h0 h1).mono ?_
  rintro e w' ⟨rfl, hb⟩
  exact ⟨rfl, hs.below hb⟩
theorem hsUsed {A W : World} {p : Nat} {m : M} (h : Hs A W p m) : Calls Try.prog 6 #[ptr p] W fun e w' => e = .returned (.int .i64 (m.used : Int)) ∧ W = w' := by
  obtain ⟨F, k1, _, _⟩ := h
  exact usedS k1
theorem hsWorks {A W : World} (hb : Below A.heap.size A W) : Calls Try.prog 18 #[] W fun e w' => e = .returned (.bool true) ∧ Below A.heap.size A w' := by
  refine (works_as W).mono ?_
  rintro e w' ⟨rfl, h⟩
  exact ⟨rfl, hb.trans (h.mono hb.size)⟩
end Go.Proofs.Ytchamkiffkngjaa
