/-
  HeapKnown: the chapter's examples, call by call.
-/
import Derived.Test.YtchamkiffkngjaaRep
namespace Go.Proofs.Ytchamkiffkngjaa
open Go.RowKit
set_option linter.unusedVariables false

def abc : ByteArray := ⟨#[97, 98, 99]⟩
def k1 : M := M.new 10
def k2 : M := k1.keep (tText abc)
def k3 : M := k2.texted nine
def k4 : M := k3.made (tRec 16 [5, 6]) 3
def k5 : M := k4.put 3 0 9
def k6 : M := k5.made (tGrow 17) 1
def k7 : M := k6.pushed 4 1
def k8 : M := k7.pushed 4 2
def k9 : M := k8.pushed 4 3
def k10 : M := k9.pushed 4 4
def k11 : M := k10.dropped 4
def k12 : M := k11.filled 18 (-1) 0
def k13 : M := k12.filled 18 65537 0
def k14 : M := k13.filled 18 0 7
def k15 : M := k14.pushed 4 5
def k16 : M := k15.pushed 2 0
theorem hsBytes {A W : World} {p : Nat} {m : M} (h : Hs A W p m) (hn : m.ths.length ≤ 1000000) (ref : Int) (h0 : 0 ≤ ref) (h1 : ref < 18446744073709551616) : Calls Try.prog 15 #[ptr p, .int .u64 ref] W fun e w' => e = .returned (.tuple #[.string (m.at ref).str, .bool (decide ((m.at ref).kind = 1))]) ∧ W = w' := by
  obtain ⟨F, k1, _, _⟩ := h
  exact bytesS k1 hn ref h0 h1
section
variable {A W : World} {p : Nat}
theorem e1 (h : Hs A W p k1) : Calls Try.prog 5 #[ptr p, .string ⟨#[97, 98, 99]⟩] W fun e w' => e = .returned (.int .u64 1) ∧ Hs A w' p k2 := hsConst h (by decide) abc (by decide)
theorem e2 (h : Hs A W p k2) : Calls Try.prog 6 #[ptr p] W fun e w' => e = .returned (.int .i64 0) ∧ W = w' := hsUsed h
theorem e3 (h : Hs A W p k2) : Calls Try.prog 7 #[ptr p, .string ⟨#[97, 98, 99, 100, 101, 102, 103, 104, 105]⟩] W fun e w' => e = .returned (.tuple #[.int .u64 2, .int .i64 0]) ∧ Hs A w' p k3 := hsText h (by decide) nine (by unfold maxLen; decide)
theorem e5 (h : Hs A W p k4) : Calls Try.prog 9 #[ptr p, .int .u64 3, .int .i64 2] W fun e w' => e = .returned (.tuple #[.int .u64 0, .int .i64 2]) ∧ W = w' := hsGet h (by decide) 3 2 (by omega) (by omega) (by omega) (by omega)
theorem e6 (h : Hs A W p k4) : Calls Try.prog 6 #[ptr p] W fun e w' => e = .returned (.int .i64 6) ∧ W = w' := hsUsed h
theorem e7 (h : Hs A W p k4) : Calls Try.prog 10 #[ptr p, .int .u64 3, .int .i64 0, .int .u64 9] W fun e w' => e = .returned (.int .i64 0) ∧ Hs A w' p k5 := hsSet h (by decide) 3 0 9 (by omega) (by omega) (by omega) (by omega) (by omega)
theorem e8 (h : Hs A W p k5) : Calls Try.prog 11 #[ptr p, .int .i64 17] W fun e w' => e = .returned (.tuple #[.int .u64 4, .int .i64 0]) ∧ Hs A w' p k6 := hsEmpty h (by decide) 17
theorem e9 (h : Hs A W p k6) : Calls Try.prog 12 #[ptr p, .int .u64 4, .int .u64 1] W fun e w' => e = .returned (.int .i64 0) ∧ Hs A w' p k7 := hsPush h (by decide) 4 1 (by omega) (by omega) (by omega)
theorem e10 (h : Hs A W p k7) : Calls Try.prog 12 #[ptr p, .int .u64 4, .int .u64 2] W fun e w' => e = .returned (.int .i64 0) ∧ Hs A w' p k8 := hsPush h (by decide) 4 2 (by omega) (by omega) (by omega)
theorem e11 (h : Hs A W p k8) : Calls Try.prog 6 #[ptr p] W fun e w' => e = .returned (.int .i64 9) ∧ W = w' := hsUsed h
theorem e12 (h : Hs A W p k8) : Calls Try.prog 12 #[ptr p, .int .u64 4, .int .u64 3] W fun e w' => e = .returned (.int .i64 0) ∧ Hs A w' p k9 := hsPush h (by decide) 4 3 (by omega) (by omega) (by omega)
theorem e13 (h : Hs A W p k9) : Calls Try.prog 12 #[ptr p, .int .u64 4, .int .u64 4] W fun e w' => e = .returned (.int .i64 4) ∧ Hs A w' p k10 := hsPush h (by decide) 4 4 (by omega) (by omega) (by omega)
theorem e14 (h : Hs A W p k10) : Calls Try.prog 13 #[ptr p, .int .u64 4] W fun e w' => e = .returned (.tuple #[.int .u64 3, .int .i64 0]) ∧ Hs A w' p k11 := hsDrop h (by decide) 4 (by omega) (by omega)
theorem e15 (h : Hs A W p k11) : Calls Try.prog 14 #[ptr p, .int .i64 18, .int .i64 (-1), .int .u64 0] W fun e w' => e = .returned (.tuple #[.int .u64 0, .int .i64 3]) ∧ Hs A w' p k12 := hsFill h (by decide) 18 (-1) 0 (by omega) (by omega) (by omega)
theorem e16 (h : Hs A W p k12) : Calls Try.prog 14 #[ptr p, .int .i64 18, .int .i64 65537, .int .u64 0] W fun e w' => e = .returned (.tuple #[.int .u64 0, .int .i64 3]) ∧ Hs A w' p k13 := hsFill h (by decide) 18 65537 0 (by omega) (by omega) (by omega)
theorem e17 (h : Hs A W p k13) : Calls Try.prog 14 #[ptr p, .int .i64 18, .int .i64 0, .int .u64 7] W fun e w' => e = .returned (.tuple #[.int .u64 0, .int .i64 4]) ∧ Hs A w' p k14 := hsFill h (by decide) 18 0 7 (by omega) (by omega) (by omega)
theorem e18 (h : Hs A W p k14) : Calls Try.prog 9 #[ptr p, .int .u64 1, .int .i64 0] W fun e w' => e = .returned (.tuple #[.int .u64 0, .int .i64 2]) ∧ W = w' := hsGet h (by decide) 1 0 (by omega) (by omega) (by omega) (by omega)
theorem e19 (h : Hs A W p k14) : Calls Try.prog 15 #[ptr p, .int .u64 3] W fun e w' => e = .returned (.tuple #[.string ⟨#[]⟩, .bool false]) ∧ W = w' := hsBytes h (by decide) 3 (by omega) (by omega)
theorem e20 (h : Hs A W p k14) : Calls Try.prog 15 #[ptr p, .int .u64 1] W fun e w' => e = .returned (.tuple #[.string ⟨#[97, 98, 99]⟩, .bool true]) ∧ W = w' := hsBytes h (by decide) 1 (by omega) (by omega)
theorem e21 (h : Hs A W p k14) : Calls Try.prog 12 #[ptr p, .int .u64 4, .int .u64 5] W fun e w' => e = .returned (.int .i64 4) ∧ Hs A w' p k15 := hsPush h (by decide) 4 5 (by omega) (by omega) (by omega)
theorem e22 (h : Hs A W p k15) : Calls Try.prog 12 #[ptr p, .int .u64 2, .int .u64 0] W fun e w' => e = .returned (.int .i64 2) ∧ Hs A w' p k16 := hsPush h (by decide) 2 0 (by omega) (by omega) (by omega)
theorem e23 (h : Hs A W p k16) : Calls Try.prog 16 #[ptr p, .int .u64 1] W fun e w' => e = .returned (.int .i64 5) ∧ Hs A w' p k16 := hsType h (by decide) 1 (by omega) (by omega)
theorem e24 (h : Hs A W p k16) : Calls Try.prog 16 #[ptr p, .int .u64 9] W fun e w' => e = .returned (.int .i64 0) ∧ Hs A w' p k16 := hsType h (by decide) 9 (by omega) (by omega)
theorem e25 (h : Hs A W p k16) : Calls Try.prog 16 #[ptr p, .int .u64 4] W fun e w' => e = .returned (.int .i64 17) ∧ Hs A w' p k16 := hsType h (by decide) 4 (by omega) (by omega)
/-- The record of the examples: its words lie in a new block. -/
theorem e4 (h : Hs A W p k3) : Calls Try.prog 8 #[ptr p, .int .i64 16, .slice (some ⟨W.heap.size, 0, none⟩) 2 2] (W.alloc (.cells #[.int .u64 5, .int .u64 6] 24)) fun e w' => e = .returned (.tuple #[.int .u64 3, .int .i64 0]) ∧ Hs A w' p k4 := by
  have hb : Below W.heap.size W (W.alloc (.cells #[.int .u64 5, .int .u64 6] 24)) := (Below.refl _ W).alloc (Nat.le_refl _) _
  obtain ⟨F, h1, h2, h3⟩ := h
  have hr := recordS (h1.below hb) (by decide) 16 _ _ [5, 6] (words_new W [5, 6] (by simp) (by simp)) (fun _ b o e _ q => by cases e; have := h1.bd _ q; omega) (by simp)
  refine hr.mono ?_
  rintro e w' ⟨rfl, hR⟩
  exact ⟨rfl, Hs.next h2 (h3.trans (hb.mono h3.size)) hR⟩
end
end Go.Proofs.Ytchamkiffkngjaa
