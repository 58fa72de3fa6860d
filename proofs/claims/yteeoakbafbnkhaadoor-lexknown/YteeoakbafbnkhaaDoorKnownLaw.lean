/-
  Texts joined: KnownKit, Shown, Bytes, Beside, Limits, KnownWalk.
-/
import Derived.Test.YteeoakbafbnkhaaDoorXLib
import Derived.Deep.QuietTactic
import Derived.BigQuiet
import Derived.Test.YteeoakbafbnkhaaDoorLawMath
import Derived.Test.YteeoakbafbnkhaaDoorLawWalks
import Derived.Test.YteeoakbafbnkhaaDoorLiesWalk
import Derived.Test.YteeoakbafbnkhaaDoorEachLaw

/-
  WHAT LexKnown's WALKS SHARE: laws that answer true at whatever text; a literal row of short strings; a region that draws its order and only adds blocks.
-/
namespace Go.Proofs.YteeoakbafbnkhaaDoor
open Go.RowKit
set_option linter.unusedVariables false

/-- Called with nothing, with a text, with a text and numbers: the answer is true, and old blocks stand. -/
def Yes0 (f : FuncId) : Prop := ∀ w : World, Hid (Laid w) → Calls Tryd.prog f #[] w fun e w' => e = .returned (.bool true) ∧ Below w.heap.size w w'
def Yes1 (f : FuncId) : Prop := ∀ (s : ByteArray) (w : World), s.size ≤ maxLen → Hid (Laid w) → Calls Tryd.prog f #[.string s] w fun e w' => e = .returned (.bool true) ∧ Below w.heap.size w w'
def Yes2 (f : FuncId) (s : ByteArray) : Prop := ∀ (a : Int) (w : World), (Lit.int .i64 a).wf = true → Hid (Laid w) → Calls Tryd.prog f #[.string s, .int .i64 a] w fun e w' => e = .returned (.bool true) ∧ Below w.heap.size w w'
def Yes3 (f : FuncId) (s : ByteArray) : Prop := ∀ (a b : Int) (w : World), (Lit.int .i64 a).wf = true → (Lit.int .i64 b).wf = true → Hid (Laid w) → Calls Tryd.prog f #[.string s, .int .i64 a, .int .i64 b] w fun e w' => e = .returned (.bool true) ∧ Below w.heap.size w w'
theorem small_wf {n : Nat} (h : n ≤ 1000000) : (Lit.int .i64 (n : Int)).wf = true := by
  simp only [Lit.wf, IntKind.min, IntKind.max, IntKind.signed, IntKind.bits, Bool.and_eq_true, decide_eq_true_eq, if_true]
  omega
theorem size_two (x y : ByteArray) (h : x.size ≤ 64) (hy : y.size ≤ 64) : (x ++ y).size ≤ maxLen := by rw [ByteArray.size_append]; unfold maxLen; omega
theorem size_two2 (y x : ByteArray) (h : x.size ≤ 64) (hy : y.size ≤ 64) : (y ++ x).size ≤ maxLen := by rw [ByteArray.size_append]; unfold maxLen; omega
theorem size_three (x y z : ByteArray) (h : x.size ≤ 64) (hy : y.size ≤ 64) (hz : z.size ≤ 64) : (x ++ y ++ z).size ≤ maxLen := by rw [ByteArray.size_append, ByteArray.size_append]; unfold maxLen; omega

/-- A block holds n short strings. -/
def RowsIn (w : World) (g n : Nat) : Prop := g < w.heap.size ∧ ∀ j, j < n → ∃ x : ByteArray, x.size ≤ 64 ∧ w.cell? ⟨g, j, none⟩ = some (.string x)
theorem RowsIn.on {w w' : World} {g n B : Nat} (h : RowsIn w g n) (hb : Below B w w') (hB : g < B) : RowsIn w' g n :=
  ⟨Nat.lt_of_lt_of_le h.1 hb.size, fun j hj => by
    obtain ⟨x, hx, hc⟩ := h.2 j hj
    exact ⟨x, hx, (hb.cell (p := ⟨g, j, none⟩) hB).trans hc⟩⟩
theorem rows_alloc (w : World) (l : List ByteArray) (h : ∀ x ∈ l, x.size ≤ 64) : RowsIn (w.alloc (.cells (l.map Value.string).toArray 9)) w.heap.size l.length := by
  refine ⟨by show _ < (w.heap.push _).size; rw [Array.size_push]; omega, fun j hj => ⟨l[j], h _ (List.getElem_mem hj), ?_⟩⟩
  rw [cell_of_row _ _ j _ _ _ (heap_alloc_new _ _), List.getElem?_toArray, List.getElem?_map, List.getElem?_eq_getElem hj]
  rfl
def UpRel (w1 : World) (n : Nat) (i : Value) (wr : World) : Prop := ∃ k : Nat, k ≤ n ∧ i = .int .i64 k ∧ Below w1.heap.size w1 wr

/-- The worlds in which all that stood in w2 stands. -/
def After (w2 : World) : Type := { w' : World // Below w2.heap.size w2 w' }
theorem after_of {w2 w' : World} (h : Below w2.heap.size w2 w') : ∃ t : After w2, w' = t.1 := ⟨⟨w', h⟩, rfl⟩
theorem quiet_new {w2 : World} {f : FuncId} {args : Array Value} {v : Value} (t : After w2) (h : Calls Tryd.prog f args t.1 fun e w' => e = .returned v ∧ Below t.1.heap.size t.1 w') :
    Calls Tryd.prog f args t.1 fun e w'' => e = .returned v ∧ ∃ t' : After w2, w'' = t'.1 :=
  h.mono fun _ w' ⟨he, hb⟩ => ⟨he, ⟨w', below_chain t.2 hb (Nat.le_refl _)⟩, rfl⟩
theorem wp_region_after {id : Nat} {Q : Exit → Act → World → Prop} {a : Act} {w : World} {l : List Oper} (hm : Tryd.prog.follows .mixedOrders = true) (hB : Region.lexB .any l.toArray = true)
    (h : wpQuiet Tryd.prog l.toArray (fun w' => ∃ t : After w, w' = t.1) (fun a' => ∀ w', (∃ t : After w, w' = t.1) → Q .normal a' w') l a) : (Code.region id l.toArray true).wp Tryd.prog Q a w :=
  wp_region_quiet (C := fun w' => ∃ t : After w, w' = t.1) hm hB (after_of ⟨rfl, rfl, rfl, Nat.le_refl _, fun _ _ => rfl⟩) (by simpa using h)
end Go.Proofs.YteeoakbafbnkhaaDoor

/-
  THE WALK of the law's own shown: two rows of sources, each held to the other laws.
-/
namespace Go.Proofs.YteeoakbafbnkhaaDoor
open Go.RowKit
set_option linter.unusedVariables false

def shownA : List ByteArray := [⟨#[]⟩, ⟨#[47, 47, 32, 120]⟩, ⟨#[97, 49, 60, 61, 49, 50, 105, 56, 32, 47, 47, 32, 98]⟩, ⟨#[120, 58, 61, 45, 53, 59]⟩, ⟨#[34, 97, 92, 120, 52, 49, 92, 110, 34]⟩, ⟨#[97, 61, 61, 61, 98]⟩, ⟨#[50, 53, 53, 105, 56]⟩, ⟨#[50, 53, 54, 105, 56]⟩, ⟨#[52, 50, 57, 52, 57, 54, 55, 50, 57, 53, 105, 51, 50]⟩, ⟨#[52, 50, 57, 52, 57, 54, 55, 50, 57, 54, 105, 51, 50]⟩, ⟨#[49, 56, 52, 52, 54, 55, 52, 52, 48, 55, 51, 55, 48, 57, 53, 53, 49, 54, 49, 53, 105, 54, 52]⟩, ⟨#[49, 56, 52, 52, 54, 55, 52, 52, 48, 55, 51, 55, 48, 57, 53, 53, 49, 54, 49, 53]⟩, ⟨#[49, 56, 52, 52, 54, 55, 52, 52, 48, 55, 51, 55, 48, 57, 53, 53, 49, 54, 49, 54]⟩, ⟨#[49, 56, 52, 52, 54, 55, 52, 52, 48, 55, 51, 55, 48, 57, 53, 53, 49, 54, 49, 53, 48]⟩, ⟨#[48, 48, 48, 48, 48, 48, 48, 48, 48, 48, 48, 48, 48, 48, 48, 48, 48, 48, 48, 48, 48, 48, 48, 48, 48, 48, 48, 48, 55]⟩, ⟨#[48, 48, 55, 105, 56]⟩, ⟨#[48, 48, 48, 50, 53, 54, 105, 56]⟩, ⟨#[49, 50, 97]⟩, ⟨#[49, 50, 105, 56, 120]⟩, ⟨#[49, 50, 105, 57]⟩, ⟨#[49, 95]⟩, ⟨#[49, 50, 105]⟩, ⟨#[49, 105, 54, 52, 105, 54, 52]⟩, ⟨#[48, 120, 49]⟩, ⟨#[34, 97]⟩, ⟨#[34, 97, 10, 34]⟩, ⟨#[34, 92, 113, 34]⟩, ⟨#[34, 92, 120, 52, 34]⟩, ⟨#[34, 92]⟩, ⟨#[34, 92, 120]⟩, ⟨#[34, 92, 120, 52]⟩, ⟨#[34, 92, 120, 103, 48, 34]⟩, ⟨#[34, 92, 120, 65, 102, 34]⟩, ⟨#[34, 92, 120, 10, 34]⟩, ⟨#[34, 92, 10, 34]⟩, ⟨#[34, 92, 34, 34]⟩, ⟨#[35]⟩, ⟨#[97, 32, 63]⟩, ⟨#[36]⟩, ⟨#[47]⟩, ⟨#[47, 32, 47]⟩, ⟨#[47, 47]⟩, ⟨#[47, 47, 47]⟩, ⟨#[97, 47, 47, 10, 98]⟩, ⟨#[97, 47, 98]⟩, ⟨#[97, 47, 47, 47, 98]⟩, ⟨#[47, 42]⟩, ⟨#[102, 110, 32, 102, 40, 41, 32, 123, 125]⟩, ⟨#[60, 60, 61, 62, 62]⟩, ⟨#[38, 38, 38]⟩, ⟨#[124, 124, 124]⟩, ⟨#[33, 61, 61]⟩, ⟨#[60, 61, 62]⟩, ⟨#[97, 46, 98]⟩, ⟨#[49, 46, 53]⟩, ⟨#[105, 56, 32, 105, 51, 50]⟩, ⟨#[34, 34, 34, 34]⟩, ⟨#[255]⟩, ⟨#[195, 164]⟩, ⟨#[34, 195, 164, 255, 34]⟩, ⟨#[0]⟩, ⟨#[97, 11, 98]⟩, ⟨#[127]⟩]
def shownB : List ByteArray := [⟨#[114, 101, 99, 111, 114, 100]⟩, ⟨#[102, 110]⟩, ⟨#[118, 97, 114]⟩, ⟨#[105, 102]⟩, ⟨#[101, 108, 115, 101]⟩, ⟨#[119, 104, 105, 108, 101]⟩, ⟨#[102, 111, 114]⟩, ⟨#[115, 119, 105, 116, 99, 104]⟩, ⟨#[99, 97, 115, 101]⟩, ⟨#[100, 101, 102, 97, 117, 108, 116]⟩, ⟨#[98, 114, 101, 97, 107]⟩, ⟨#[99, 111, 110, 116, 105, 110, 117, 101]⟩, ⟨#[114, 101, 116, 117, 114, 110]⟩, ⟨#[116, 114, 97, 112]⟩, ⟨#[110, 101, 119]⟩, ⟨#[116, 114, 117, 101]⟩, ⟨#[102, 97, 108, 115, 101]⟩, ⟨#[105, 56]⟩, ⟨#[105, 51, 50]⟩, ⟨#[105, 54, 52]⟩, ⟨#[98, 111, 111, 108]⟩, ⟨#[98, 121, 116, 101, 115]⟩, ⟨#[108, 101, 110]⟩, ⟨#[99, 117, 116]⟩, ⟨#[98, 121, 116, 101]⟩, ⟨#[112, 117, 115, 104]⟩, ⟨#[112, 111, 112]⟩, ⟨#[105, 110]⟩, ⟨#[105, 49, 54]⟩, ⟨#[87, 104, 105, 108, 101]⟩, ⟨#[105, 110, 116]⟩, ⟨#[116, 101, 120, 116]⟩, ⟨#[95]⟩, ⟨#[95, 95, 97]⟩, ⟨#[97, 49]⟩, ⟨#[49, 97]⟩, ⟨#[97, 32, 98]⟩, ⟨#[97, 45]⟩]
theorem shownA_small : ∀ x ∈ shownA, x.size ≤ 64 := by decide
theorem shownB_small : ∀ x ∈ shownB, x.size ≤ 64 := by decide
set_option maxRecDepth 1000000 in
set_option maxHeartbeats 4000000 in
theorem shown_any (hT : Yes1 8) (hE : ∀ s, s.size ≤ 1000 → Yes2 9 s) (hW : Yes1 10) (hB : Yes1 11) (hN : Yes1 12) (hLi : ∀ s, s.size ≤ 1000 → Yes3 13 s) (hWo : Yes0 14) : Yes0 4 := by
  intro w HL
  have HT : Hid (Yes1 8) := hT
  have HE : Hid (∀ s, s.size ≤ 1000 → Yes2 9 s) := hE
  have HW : Hid (Yes1 10) := hW
  have HB : Hid (Yes1 11) := hB
  have HN : Hid (Yes1 12) := hN
  have HLi : Hid (∀ s, s.size ≤ 1000 → Yes3 13 s) := hLi
  have HWo : Hid (Yes0 14) := hWo
  clear hT hE hW hB hN hLi hWo
  obtain ⟨g, hg⟩ : ∃ g, g = w.heap.size := ⟨_, rfl⟩
  go_enter Tryd.func4, Tryd.ntmps4
  go_wp2_with fail
  obtain ⟨w1, hw1⟩ : ∃ w1, w1 = w.alloc (.cells #[.string ⟨#[]⟩, .string ⟨#[47, 47, 32, 120]⟩, .string ⟨#[97, 49, 60, 61, 49, 50, 105, 56, 32, 47, 47, 32, 98]⟩, .string ⟨#[120, 58, 61, 45, 53, 59]⟩, .string ⟨#[34, 97, 92, 120, 52, 49, 92, 110, 34]⟩, .string ⟨#[97, 61, 61, 61, 98]⟩, .string ⟨#[50, 53, 53, 105, 56]⟩, .string ⟨#[50, 53, 54, 105, 56]⟩, .string ⟨#[52, 50, 57, 52, 57, 54, 55, 50, 57, 53, 105, 51, 50]⟩, .string ⟨#[52, 50, 57, 52, 57, 54, 55, 50, 57, 54, 105, 51, 50]⟩, .string ⟨#[49, 56, 52, 52, 54, 55, 52, 52, 48, 55, 51, 55, 48, 57, 53, 53, 49, 54, 49, 53, 105, 54, 52]⟩, .string ⟨#[49, 56, 52, 52, 54, 55, 52, 52, 48, 55, 51, 55, 48, 57, 53, 53, 49, 54, 49, 53]⟩, .string ⟨#[49, 56, 52, 52, 54, 55, 52, 52, 48, 55, 51, 55, 48, 57, 53, 53, 49, 54, 49, 54]⟩, .string ⟨#[49, 56, 52, 52, 54, 55, 52, 52, 48, 55, 51, 55, 48, 57, 53, 53, 49, 54, 49, 53, 48]⟩, .string ⟨#[48, 48, 48, 48, 48, 48, 48, 48, 48, 48, 48, 48, 48, 48, 48, 48, 48, 48, 48, 48, 48, 48, 48, 48, 48, 48, 48, 48, 55]⟩, .string ⟨#[48, 48, 55, 105, 56]⟩, .string ⟨#[48, 48, 48, 50, 53, 54, 105, 56]⟩, .string ⟨#[49, 50, 97]⟩, .string ⟨#[49, 50, 105, 56, 120]⟩, .string ⟨#[49, 50, 105, 57]⟩, .string ⟨#[49, 95]⟩, .string ⟨#[49, 50, 105]⟩, .string ⟨#[49, 105, 54, 52, 105, 54, 52]⟩, .string ⟨#[48, 120, 49]⟩, .string ⟨#[34, 97]⟩, .string ⟨#[34, 97, 10, 34]⟩, .string ⟨#[34, 92, 113, 34]⟩, .string ⟨#[34, 92, 120, 52, 34]⟩, .string ⟨#[34, 92]⟩, .string ⟨#[34, 92, 120]⟩, .string ⟨#[34, 92, 120, 52]⟩, .string ⟨#[34, 92, 120, 103, 48, 34]⟩, .string ⟨#[34, 92, 120, 65, 102, 34]⟩, .string ⟨#[34, 92, 120, 10, 34]⟩, .string ⟨#[34, 92, 10, 34]⟩, .string ⟨#[34, 92, 34, 34]⟩, .string ⟨#[35]⟩, .string ⟨#[97, 32, 63]⟩, .string ⟨#[36]⟩, .string ⟨#[47]⟩, .string ⟨#[47, 32, 47]⟩, .string ⟨#[47, 47]⟩, .string ⟨#[47, 47, 47]⟩, .string ⟨#[97, 47, 47, 10, 98]⟩, .string ⟨#[97, 47, 98]⟩, .string ⟨#[97, 47, 47, 47, 98]⟩, .string ⟨#[47, 42]⟩, .string ⟨#[102, 110, 32, 102, 40, 41, 32, 123, 125]⟩, .string ⟨#[60, 60, 61, 62, 62]⟩, .string ⟨#[38, 38, 38]⟩, .string ⟨#[124, 124, 124]⟩, .string ⟨#[33, 61, 61]⟩, .string ⟨#[60, 61, 62]⟩, .string ⟨#[97, 46, 98]⟩, .string ⟨#[49, 46, 53]⟩, .string ⟨#[105, 56, 32, 105, 51, 50]⟩, .string ⟨#[34, 34, 34, 34]⟩, .string ⟨#[255]⟩, .string ⟨#[195, 164]⟩, .string ⟨#[34, 195, 164, 255, 34]⟩, .string ⟨#[0]⟩, .string ⟨#[97, 11, 98]⟩, .string ⟨#[127]⟩] 9) := ⟨_, rfl⟩
  rw [← hw1, ← hg]
  have HC : Hid (RowsIn w1 g 63) := by unfold Hid; rw [hw1, hg]; exact rows_alloc w shownA shownA_small
  have B1 : Hid (Below w.heap.size w w1) := by unfold Hid; rw [hw1]; exact (Below.refl _ _).alloc (Nat.le_refl _) _
  have HL1 : Hid (Laid w1) := HL.out.on B1.out
  clear hw1 hg
  go_loopw [7] (fun i wr => UpRel w1 63 i wr) (fun i _ => 63 - (intOf i).toNat)
  case atStart => exact ⟨0, by omega, rfl, Below.refl _ _⟩
  case round =>
    obtain ⟨k, hk, rfl, bel⟩ := hrel
    have BR : Hid (Below w1.heap.size w1 wr) := bel
    clear bel
    by_cases hlt : k < 63
    · obtain ⟨x, hx, hcell0⟩ := (HC.out.on BR.out HC.out.1).2 k hlt
      have hcell : wr.cell? ⟨g, k, none⟩ = some (.string x) := hcell0
      clear hcell0

      go_wp2_with fail
      refine (HT.out x _ (by unfold maxLen; omega) (HL1.out.on BR.out)).mono ?_
      rintro e v1 ⟨rfl, bel⟩
      have Bv1 : Hid (Below w1.heap.size w1 v1) := below_chain BR.out bel (Nat.le_refl _)
      clear bel
      go_wp2_with fail
      refine (HE.out x (by omega) 1 _ (by decide) (HL1.out.on Bv1.out)).mono ?_
      rintro e v2 ⟨rfl, bel⟩
      have Bv2 : Hid (Below w1.heap.size w1 v2) := below_chain Bv1.out bel (Nat.le_refl _)
      clear bel
      go_wp2_with fail
      refine (HW.out x _ (by unfold maxLen; omega) (HL1.out.on Bv2.out)).mono ?_
      rintro e v3 ⟨rfl, bel⟩
      have Bv3 : Hid (Below w1.heap.size w1 v3) := below_chain Bv2.out bel (Nat.le_refl _)
      clear bel
      go_wp2_with fail
      refine (HB.out x _ (by unfold maxLen; omega) (HL1.out.on Bv3.out)).mono ?_
      rintro e v4 ⟨rfl, bel⟩
      have Bv4 : Hid (Below w1.heap.size w1 v4) := below_chain Bv3.out bel (Nat.le_refl _)
      clear bel
      go_wp2_with fail
      refine (HN.out x _ (by unfold maxLen; omega) (HL1.out.on Bv4.out)).mono ?_
      rintro e v5 ⟨rfl, bel⟩
      have Bv5 : Hid (Below w1.heap.size w1 v5) := below_chain Bv4.out bel (Nat.le_refl _)
      clear bel
      go_wp2_with fail
      refine (HLi.out x (by omega) 1 x.size _ (by decide) (small_wf (by omega)) (HL1.out.on Bv5.out)).mono ?_
      rintro e v6 ⟨rfl, bel⟩
      have Bv6 : Hid (Below w1.heap.size w1 v6) := below_chain Bv5.out bel (Nat.le_refl _)
      clear bel
      go_wp2
      go_roundw
      case rel => exact ⟨k + 1, by omega, by go_num, Bv6.out⟩
      case measure => simp [intOf]; omega
    · obtain ⟨g2, hg2⟩ : ∃ g2, g2 = wr.heap.size := ⟨_, rfl⟩
      go_wp2_with fail
      obtain ⟨w2, hw2⟩ : ∃ w2, w2 = wr.alloc (.cells #[.string ⟨#[114, 101, 99, 111, 114, 100]⟩, .string ⟨#[102, 110]⟩, .string ⟨#[118, 97, 114]⟩, .string ⟨#[105, 102]⟩, .string ⟨#[101, 108, 115, 101]⟩, .string ⟨#[119, 104, 105, 108, 101]⟩, .string ⟨#[102, 111, 114]⟩, .string ⟨#[115, 119, 105, 116, 99, 104]⟩, .string ⟨#[99, 97, 115, 101]⟩, .string ⟨#[100, 101, 102, 97, 117, 108, 116]⟩, .string ⟨#[98, 114, 101, 97, 107]⟩, .string ⟨#[99, 111, 110, 116, 105, 110, 117, 101]⟩, .string ⟨#[114, 101, 116, 117, 114, 110]⟩, .string ⟨#[116, 114, 97, 112]⟩, .string ⟨#[110, 101, 119]⟩, .string ⟨#[116, 114, 117, 101]⟩, .string ⟨#[102, 97, 108, 115, 101]⟩, .string ⟨#[105, 56]⟩, .string ⟨#[105, 51, 50]⟩, .string ⟨#[105, 54, 52]⟩, .string ⟨#[98, 111, 111, 108]⟩, .string ⟨#[98, 121, 116, 101, 115]⟩, .string ⟨#[108, 101, 110]⟩, .string ⟨#[99, 117, 116]⟩, .string ⟨#[98, 121, 116, 101]⟩, .string ⟨#[112, 117, 115, 104]⟩, .string ⟨#[112, 111, 112]⟩, .string ⟨#[105, 110]⟩, .string ⟨#[105, 49, 54]⟩, .string ⟨#[87, 104, 105, 108, 101]⟩, .string ⟨#[105, 110, 116]⟩, .string ⟨#[116, 101, 120, 116]⟩, .string ⟨#[95]⟩, .string ⟨#[95, 95, 97]⟩, .string ⟨#[97, 49]⟩, .string ⟨#[49, 97]⟩, .string ⟨#[97, 32, 98]⟩, .string ⟨#[97, 45]⟩] 9) := ⟨_, rfl⟩
      rw [← hw2, ← hg2]
      have HC2 : Hid (RowsIn w2 g2 38) := by unfold Hid; rw [hw2, hg2]; exact rows_alloc wr shownB shownB_small
      have B2 : Hid (Below w.heap.size w w2) := by unfold Hid; rw [hw2]; exact (below_chain B1.out BR.out (Nat.le_refl _)).alloc (below_chain B1.out BR.out (Nat.le_refl _)).size _
      have HL2 : Hid (Laid w2) := HL.out.on B2.out
      clear hw2 hg2 HC HL1 BR B1
      go_loopw [44] (fun i wr => UpRel w2 38 i wr) (fun i _ => 38 - (intOf i).toNat)
      case atStart => exact ⟨0, by omega, rfl, Below.refl _ _⟩
      case round =>
        obtain ⟨k, hk, rfl, bel⟩ := hrel
        have BR : Hid (Below w2.heap.size w2 wr) := bel
        clear bel
        by_cases hlt : k < 38
        · obtain ⟨x, hx, hcell0⟩ := (HC2.out.on BR.out HC2.out.1).2 k hlt
          have hcell : wr.cell? ⟨g2, k, none⟩ = some (.string x) := hcell0
          clear hcell0
          go_wp2_with fail
          refine (HW.out x _ (by unfold maxLen; omega) (HL2.out.on BR.out)).mono ?_
          rintro e v1 ⟨rfl, bel⟩
          have Bv1 : Hid (Below w2.heap.size w2 v1) := below_chain BR.out bel (Nat.le_refl _)
          clear bel
          go_wp2_with fail
          refine (HN.out x _ (by unfold maxLen; omega) (HL2.out.on Bv1.out)).mono ?_
          rintro e v2 ⟨rfl, bel⟩
          have Bv2 : Hid (Below w2.heap.size w2 v2) := below_chain Bv1.out bel (Nat.le_refl _)
          clear bel
          go_wp2_with fail
          refine (HN.out _ _ (size_two x _ hx (by decide)) (HL2.out.on Bv2.out)).mono ?_
          rintro e v3 ⟨rfl, bel⟩
          have Bv3 : Hid (Below w2.heap.size w2 v3) := below_chain Bv2.out bel (Nat.le_refl _)
          clear bel
          go_wp2_with fail
          refine (HN.out _ _ (size_two2 _ x hx (by decide)) (HL2.out.on Bv3.out)).mono ?_
          rintro e v4 ⟨rfl, bel⟩
          have Bv4 : Hid (Below w2.heap.size w2 v4) := below_chain Bv3.out bel (Nat.le_refl _)
          clear bel
          go_wp2_with fail
          refine (HT.out _ _ (size_three x _ x hx (by decide) hx) (HL2.out.on Bv4.out)).mono ?_
          rintro e v5 ⟨rfl, bel⟩
          have Bv5 : Hid (Below w2.heap.size w2 v5) := below_chain Bv4.out bel (Nat.le_refl _)
          clear bel
          go_wp2
          go_roundw
          case rel => exact ⟨k + 1, by omega, by go_num, Bv5.out⟩
          case measure => simp [intOf]; omega
        · go_wp2_with fail
          refine (HWo.out _ (HL2.out.on BR.out)).mono ?_
          rintro e w3 ⟨rfl, bel⟩
          go_wp2
          go_ret
          exact ⟨rfl, below_chain (below_chain B2.out BR.out (Nat.le_refl _)) bel (Nat.le_refl _)⟩
end Go.Proofs.YteeoakbafbnkhaaDoor

/-
  THE WALK of the law's own bytes: each byte, in eleven sources and as texts.
-/
namespace Go.Proofs.YteeoakbafbnkhaaDoor
open Go.RowKit
set_option linter.unusedVariables false

def bytesL (b : ByteArray) : List ByteArray := [b, ⟨#[97]⟩ ++ b ++ ⟨#[99]⟩, ⟨#[34]⟩ ++ b ++ ⟨#[34]⟩, ⟨#[34, 92]⟩ ++ b ++ ⟨#[34]⟩, ⟨#[34, 92, 120]⟩ ++ b ++ ⟨#[48, 34]⟩, ⟨#[34, 92, 120, 48]⟩ ++ b ++ ⟨#[34]⟩, ⟨#[49]⟩ ++ b, b ++ ⟨#[49]⟩, ⟨#[47, 47]⟩ ++ b ++ ⟨#[97]⟩, ⟨#[61]⟩ ++ b, ⟨#[34, 97, 34]⟩ ++ b]
theorem size_lits (l : List UInt8) : (⟨l.toArray⟩ : ByteArray).size = l.length := by simp [ByteArray.size]
theorem bytesL_small (b : ByteArray) (h : b.size = 1) : ∀ x ∈ bytesL b, x.size ≤ 64 := by
  intro x hx
  simp only [bytesL, List.mem_cons, List.not_mem_nil, or_false] at hx
  rcases hx with rfl | rfl | rfl | rfl | rfl | rfl | rfl | rfl | rfl | rfl | rfl <;> simp only [ByteArray.size_append, h] <;> decide
theorem conv_one (wr : World) (c : Nat) :
    (convert 27 9 (.slice (some ⟨wr.heap.size, 0, none⟩) 1 1)).run Tryd.prog (wr.alloc (.cells #[.int .u8 (c : Int)] 5)) = .ok (.string (strN [c])) (wr.alloc (.cells #[.int .u8 (c : Int)] 5)) := by
  refine run_convert_bytes_arg _ 27 5 Tryd.underlying27 Tryd.underlying5 wr.heap.size 0 1 1 ([c].map fun (c : Nat) => (c : Int)) (by simp) (fun i hi => ?_) 9 Tryd.underlying9
  obtain rfl : i = 0 := by omega
  rw [Nat.zero_add, cell_of_row _ _ 0 _ _ _ (heap_alloc_new _ _)]
  rfl
theorem strN_one (c : Nat) : (strN [c]).size = 1 := by
  rw [← bytesN_length]; unfold bytesN strN; rw [strOfNums_data]; simp
set_option maxRecDepth 1000000 in
set_option maxHeartbeats 4000000 in
theorem bytes_any (hT : Yes1 8) (hW : Yes1 10) (hB : Yes1 11) (hN : Yes1 12) : Yes0 5 := by
  intro w HL
  have HT : Hid (Yes1 8) := hT
  have HW : Hid (Yes1 10) := hW
  have HB : Hid (Yes1 11) := hB
  have HN : Hid (Yes1 12) := hN
  clear hT hW hB hN
  go_enter Tryd.func5, Tryd.ntmps5
  go_wp2
  go_loopw [1] (fun i wr => UpRel w 256 i wr) (fun i _ => 256 - (intOf i).toNat)
  case atStart => exact ⟨0, by omega, rfl, Below.refl _ _⟩
  case round =>
    obtain ⟨k, hk, rfl, bel⟩ := hrel
    have BR : Hid (Below w.heap.size w wr) := bel
    clear bel
    by_cases hlt : k < 256
    · have hcv := conv_one wr k
      obtain ⟨b, hb⟩ : ∃ b, Hid (b = strN [k]) := ⟨_, rfl⟩
      rw [← hb.out] at hcv
      have hb1 : b.size = 1 := by rw [hb.out]; exact strN_one k
      have hw8 : IntKind.u8.wrap (k : Int) = (k : Int) := by unfold IntKind.wrap; simp [IntKind.signed, IntKind.bits]; omega
      obtain ⟨wa, hwa⟩ : ∃ wa, wa = wr.alloc (.cells #[.int .u8 (k : Int)] 5) := ⟨_, rfl⟩
      have BA : Hid (Below w.heap.size w wa) := by unfold Hid; rw [hwa]; exact BR.out.alloc BR.out.size _
      go_wp2_with fail
      have hdk : decide ((k : Int) < 256) = true := by simp; omega
      obtain ⟨w1, hw1⟩ : ∃ w1, w1 = wa.alloc (.cells #[.string b, .string (⟨#[97]⟩ ++ b ++ ⟨#[99]⟩), .string (⟨#[34]⟩ ++ b ++ ⟨#[34]⟩), .string (⟨#[34, 92]⟩ ++ b ++ ⟨#[34]⟩), .string (⟨#[34, 92, 120]⟩ ++ b ++ ⟨#[48, 34]⟩), .string (⟨#[34, 92, 120, 48]⟩ ++ b ++ ⟨#[34]⟩), .string (⟨#[49]⟩ ++ b), .string (b ++ ⟨#[49]⟩), .string (⟨#[47, 47]⟩ ++ b ++ ⟨#[97]⟩), .string (⟨#[61]⟩ ++ b), .string (⟨#[34, 97, 34]⟩ ++ b)] 9) := ⟨_, rfl⟩
      obtain ⟨g, hg⟩ : ∃ g, g = wr.heap.size + 1 := ⟨_, rfl⟩
      have hga : g = wa.heap.size := by rw [hg, hwa]; exact (Array.size_push _).symm
      rw [← hwa, ← hw1, ← hg, hdk]
      have HC : Hid (RowsIn w1 g 11) := by unfold Hid; rw [hw1, hga]; exact rows_alloc wa (bytesL b) (bytesL_small b hb1)
      have B1 : Hid (Below w.heap.size w w1) := by unfold Hid; rw [hw1]; exact BA.out.alloc BA.out.size _
      have HL1 : Hid (Laid w1) := HL.out.on B1.out
      clear hw1 hwa hg hga hcv hw8 BA
      go_loopw [42] (fun i wr => UpRel w1 11 i wr) (fun i _ => 11 - (intOf i).toNat)
      case atStart => exact ⟨0, by omega, rfl, Below.refl _ _⟩
      case round =>
        obtain ⟨j, hj, rfl, bel⟩ := hrel
        have BQ : Hid (Below w1.heap.size w1 wr) := bel
        clear bel
        by_cases hjl : j < 11
        · obtain ⟨x, hx, hcell0⟩ := (HC.out.on BQ.out HC.out.1).2 j hjl
          have hcell : wr.cell? ⟨g, j, none⟩ = some (.string x) := hcell0
          clear hcell0
          go_wp2_with fail
          refine (HT.out x _ (by unfold maxLen; omega) (HL1.out.on BQ.out)).mono ?_
          rintro e v1 ⟨rfl, bel⟩
          have Bv1 : Hid (Below w1.heap.size w1 v1) := below_chain BQ.out bel (Nat.le_refl _)
          clear bel
          go_wp2
          go_roundw
          case rel => exact ⟨j + 1, by omega, by go_num, Bv1.out⟩
          case measure => simp [intOf]; omega
        · have BE : Hid (Below w.heap.size w wr) := below_chain B1.out BQ.out (Nat.le_refl _)
          clear B1 BQ HL1 HC
          go_wp2_with fail
          refine (HW.out b _ (by unfold maxLen; omega) (HL.out.on BE.out)).mono ?_
          rintro e v1 ⟨rfl, bel⟩
          have Bv1 : Hid (Below w.heap.size w v1) := below_chain BE.out bel (Nat.le_refl _)
          clear bel
          go_wp2_with fail
          refine (HB.out _ _ (size_two b b (by omega) (by omega)) (HL.out.on Bv1.out)).mono ?_
          rintro e v2 ⟨rfl, bel⟩
          have Bv2 : Hid (Below w.heap.size w v2) := below_chain Bv1.out bel (Nat.le_refl _)
          clear bel
          go_wp2_with fail
          refine (HN.out b _ (by unfold maxLen; omega) (HL.out.on Bv2.out)).mono ?_
          rintro e v3 ⟨rfl, bel⟩
          have Bv3 : Hid (Below w.heap.size w v3) := below_chain Bv2.out bel (Nat.le_refl _)
          clear bel
          go_wp2_with fail
          refine (HN.out _ _ (size_two2 _ b (by omega) (by decide)) (HL.out.on Bv3.out)).mono ?_
          rintro e v4 ⟨rfl, bel⟩
          have Bv4 : Hid (Below w.heap.size w v4) := below_chain Bv3.out bel (Nat.le_refl _)
          clear bel
          go_wp2
          go_roundw
          case rel => exact ⟨k + 1, by omega, by go_num, Bv4.out⟩
          case measure => simp [intOf]; omega
    · go_wp2
      go_ret
      exact ⟨rfl, BR.out⟩
end Go.Proofs.YteeoakbafbnkhaaDoor

/-
  THE WALK of the law's own beside: each of 28 signs beside each.
-/
namespace Go.Proofs.YteeoakbafbnkhaaDoor
open Go.RowKit
set_option linter.unusedVariables false

def besideL : List ByteArray := [⟨#[40]⟩, ⟨#[41]⟩, ⟨#[123]⟩, ⟨#[125]⟩, ⟨#[91]⟩, ⟨#[93]⟩, ⟨#[44]⟩, ⟨#[59]⟩, ⟨#[58]⟩, ⟨#[46]⟩, ⟨#[43]⟩, ⟨#[45]⟩, ⟨#[42]⟩, ⟨#[47]⟩, ⟨#[37]⟩, ⟨#[38]⟩, ⟨#[124]⟩, ⟨#[94]⟩, ⟨#[126]⟩, ⟨#[33]⟩, ⟨#[60]⟩, ⟨#[62]⟩, ⟨#[61]⟩, ⟨#[97]⟩, ⟨#[49]⟩, ⟨#[34, 98, 34]⟩, ⟨#[32]⟩, ⟨#[10]⟩]
theorem besideL_small : ∀ x ∈ besideL, x.size ≤ 64 := by decide
theorem size_small (x y z : ByteArray) (h : x.size ≤ 64) (hy : y.size ≤ 64) (hz : z.size ≤ 64) : (x ++ y ++ z).size ≤ 1000 := by rw [ByteArray.size_append, ByteArray.size_append]; omega
set_option maxRecDepth 1000000 in
set_option maxHeartbeats 4000000 in
theorem beside_any (hT : Yes1 8) (hLi : ∀ s, s.size ≤ 1000 → Yes3 13 s) : Yes0 6 := by
  intro w HL
  have HT : Hid (Yes1 8) := hT
  have HLi : Hid (∀ s, s.size ≤ 1000 → Yes3 13 s) := hLi
  clear hT hLi
  obtain ⟨g, hg⟩ : ∃ g, g = w.heap.size := ⟨_, rfl⟩
  go_enter Tryd.func6, Tryd.ntmps6
  go_wp2_with fail
  obtain ⟨w1, hw1⟩ : ∃ w1, w1 = w.alloc (.cells #[.string ⟨#[40]⟩, .string ⟨#[41]⟩, .string ⟨#[123]⟩, .string ⟨#[125]⟩, .string ⟨#[91]⟩, .string ⟨#[93]⟩, .string ⟨#[44]⟩, .string ⟨#[59]⟩, .string ⟨#[58]⟩, .string ⟨#[46]⟩, .string ⟨#[43]⟩, .string ⟨#[45]⟩, .string ⟨#[42]⟩, .string ⟨#[47]⟩, .string ⟨#[37]⟩, .string ⟨#[38]⟩, .string ⟨#[124]⟩, .string ⟨#[94]⟩, .string ⟨#[126]⟩, .string ⟨#[33]⟩, .string ⟨#[60]⟩, .string ⟨#[62]⟩, .string ⟨#[61]⟩, .string ⟨#[97]⟩, .string ⟨#[49]⟩, .string ⟨#[34, 98, 34]⟩, .string ⟨#[32]⟩, .string ⟨#[10]⟩] 9) := ⟨_, rfl⟩
  rw [← hw1, ← hg]
  have HC : Hid (RowsIn w1 g 28) := by unfold Hid; rw [hw1, hg]; exact rows_alloc w besideL besideL_small
  have B1 : Hid (Below w.heap.size w w1) := by unfold Hid; rw [hw1]; exact (Below.refl _ _).alloc (Nat.le_refl _) _
  have HL1 : Hid (Laid w1) := HL.out.on B1.out
  clear hw1 hg
  go_loopw [2] (fun i wr => UpRel w1 28 i wr) (fun i _ => 28 - (intOf i).toNat)
  case atStart => exact ⟨0, by omega, rfl, Below.refl _ _⟩
  case round =>
    obtain ⟨i, hi, rfl, bel⟩ := hrel
    have BR : Hid (Below w1.heap.size w1 wr) := bel
    clear bel
    by_cases hil : i < 28
    · have hdi : decide ((i : Int) < 28) = true := by simp; omega
      go_wp2_with fail
      try rw [hdi]
      go_loopw [3] (fun i wr => UpRel w1 28 i wr) (fun i _ => 28 - (intOf i).toNat)
      case atStart => exact ⟨0, by omega, rfl, BR.out⟩
      case round =>
        obtain ⟨j, hj, rfl, bel⟩ := hrel
        have BQ : Hid (Below w1.heap.size w1 wr) := bel
        clear bel
        by_cases hjl : j < 28
        · obtain ⟨x, hx, hcx⟩ := (HC.out.on BQ.out HC.out.1).2 i hil
          obtain ⟨y, hy, hcy⟩ := (HC.out.on BQ.out HC.out.1).2 j hjl
          have hgw : Hid (g < wr.heap.size) := Nat.lt_of_lt_of_le HC.out.1 BQ.out.size
          have hcx2 : ∀ t : After wr, t.1.cell? ⟨g, i, none⟩ = some (.string x) := fun t => (t.2.cell (p := ⟨g, i, none⟩) hgw.out).trans hcx
          have hcy2 : ∀ t : After wr, t.1.cell? ⟨g, j, none⟩ = some (.string y) := fun t => (t.2.cell (p := ⟨g, j, none⟩) hgw.out).trans hcy
          have HLQ : Hid (∀ t : After wr, Hid (Laid t.1)) := fun t => (HL1.out.on BQ.out).on t.2
          clear hcx hcy
          go_wp2_with fail
          by_cases h0 : ((i : Int) + (j : Int)) % 5 = 0
          · have h5 : (((i : Int) + (j : Int)) % 5 == 0) = true := by simp; omega
            clear h0
            refine wp_region_after (by kernel_rfl) (by kernel_rfl) ?_
            repeat (go_big_quiet_step (with_reducible exact rfl))
            go_big_quiet_step (exact quiet_new _ (HT.out _ _ (size_two x y hx hy) (HLQ.out _)))
            repeat (go_big_quiet_step (with_reducible exact rfl))
            go_big_quiet_step (exact quiet_new _ (HT.out _ _ (size_three x y x hx hy hx) (HLQ.out _)))
            repeat (go_big_quiet_step (with_reducible exact rfl))
            go_big_quiet_step (exact quiet_new _ (HLi.out _ (size_small x y _ hx hy (by decide)) _ _ _ (small_wf (by omega)) (small_wf (by omega)) (HLQ.out _)))
            repeat (go_big_quiet_step (with_reducible exact rfl))
            refine wpQuiet_nil ?_
            intro _ hw'
            obtain ⟨t, rfl⟩ := hw'
            have BT : Hid (Below w1.heap.size w1 t.1) := below_chain BQ.out t.2 (Nat.le_refl _)
            obtain ⟨tw, tb⟩ := t
            have BT2 : Hid (Below w1.heap.size w1 tw) := BT.out
            clear BT
            go_wp2
            go_roundw
            case rel => exact ⟨j + 1, by omega, by go_num, BT2.out⟩
            case measure => simp [intOf]; omega
          · have h5 : (((i : Int) + (j : Int)) % 5 == 0) = false := by simp; omega
            clear h0
            refine wp_region_after (by kernel_rfl) (by kernel_rfl) ?_
            repeat (go_big_quiet_step (with_reducible exact rfl))
            go_big_quiet_step (exact quiet_new _ (HT.out _ _ (size_two x y hx hy) (HLQ.out _)))
            repeat (go_big_quiet_step (with_reducible exact rfl))
            go_big_quiet_step (exact quiet_new _ (HT.out _ _ (size_three x y x hx hy hx) (HLQ.out _)))
            repeat (go_big_quiet_step (with_reducible exact rfl))
            refine wpQuiet_nil ?_
            intro _ hw'
            obtain ⟨t, rfl⟩ := hw'
            have BT : Hid (Below w1.heap.size w1 t.1) := below_chain BQ.out t.2 (Nat.le_refl _)
            obtain ⟨tw, tb⟩ := t
            have BT2 : Hid (Below w1.heap.size w1 tw) := BT.out
            clear BT
            go_wp2
            go_roundw
            case rel => exact ⟨j + 1, by omega, by go_num, BT2.out⟩
            case measure => simp [intOf]; omega
        · go_wp2
          go_roundw
          case rel => exact ⟨i + 1, by omega, by go_num, BQ.out⟩
          case measure => simp [intOf]; omega
    · go_wp2
      go_ret
      exact ⟨rfl, below_chain B1.out BR.out (Nat.le_refl _)⟩
end Go.Proofs.YteeoakbafbnkhaaDoor

/-
  THE WALK of the law's own limits: sources of ';' about the two limits.
-/
namespace Go.Proofs.YteeoakbafbnkhaaDoor
open Go.RowKit
set_option linter.unusedVariables false

/-- Tokens answers so many tokens; or an error of the limit. -/
def TokFull : Prop := ∀ (s : ByteArray) (w : World), s.size ≤ 1048576 → tokens (bytesN s) = .ok (semis 0 32768) → Laid w → Calls Tryd.prog 15 #[.string s] w fun e w' => ∃ ao cap, e = .returned (.tuple #[.slice ao 32768 cap, .int .i64 0, .int .i64 0]) ∧ Below w.heap.size w w'
def TokOver : Prop := ∀ (s : ByteArray) (p : Int) (n : Nat) (w : World), s.size ≤ 1048576 → p = n → tokens (bytesN s) = .error (n, 3) → Laid w → Calls Tryd.prog 15 #[.string s] w fun e w' => e = .returned (.tuple #[.slice none 0 0, .int .i64 p, .int .i64 3]) ∧ Below w.heap.size w w'
def strLen : Value → Nat
  | .string s => s.size
  | _ => 0
def LimRel (v : Value) : Prop := ∃ (n : Nat) (X : ByteArray), v = .string X ∧ bytesN X = List.replicate n 59 ∧ ∃ m, m ≤ 16 ∧ n = 2 ^ m
theorem lim_app (x y : ByteArray) : bytesN (x ++ y) = bytesN x ++ bytesN y := by
  unfold bytesN; rw [ByteArray.data_append, Array.toList_append, List.map_append]
theorem lim_more (n : Nat) (h : ∃ m, m ≤ 16 ∧ n = 2 ^ m) (hn : n < 65536) : ∃ m, m ≤ 16 ∧ n + n = 2 ^ m := by
  obtain ⟨m, hm, rfl⟩ := h
  refine ⟨m + 1, ?_, by rw [Nat.pow_succ]; omega⟩
  rcases Nat.lt_or_ge m 16 with h | h
  · omega
  · obtain rfl : m = 16 := by omega
    exact absurd hn (by decide)
theorem lim_end (n : Nat) (h : ∃ m, m ≤ 16 ∧ n = 2 ^ m) (hn : ¬ n < 65536) : n = 65536 := by
  obtain ⟨m, hm, rfl⟩ := h
  have h2 : 2 ^ m ≤ 2 ^ 16 := Nat.pow_le_pow_right (by omega) hm
  have : (2 : Nat) ^ 16 = 65536 := by decide
  omega
theorem lim_cut (X : ByteArray) (hX : bytesN X = List.replicate 65536 59) (k : Nat) (hk : k ≤ 65536) : bytesN (X.extract 0 k) = List.replicate k 59 := by
  rw [bytesN_extract, hX, List.drop_zero, List.take_replicate, Nat.sub_zero, Nat.min_eq_left hk]
theorem lim_pos (n : Nat) (h : ∃ m, m ≤ 16 ∧ n = 2 ^ m) : 0 < n := by
  obtain ⟨m, hm, rfl⟩ := h
  exact Nat.pos_of_ne_zero (by have := Nat.one_le_two_pow (n := m); omega)
set_option maxRecDepth 1000000 in
set_option maxHeartbeats 4000000 in
theorem limits_any (hF : TokFull) (hO : TokOver) (hWo : Yes0 14) : Yes0 7 := by
  intro w HL
  have HF : Hid TokFull := hF
  have HO : Hid TokOver := hO
  have HWo : Hid (Yes0 14) := hWo
  clear hF hO hWo
  go_enter Tryd.func7, Tryd.ntmps7
  go_wp2
  go_loop [1] (fun v => LimRel v) (fun v => 65536 - strLen v)
  case atStart => exact ⟨1, ⟨#[59]⟩, rfl, rfl, 0, by omega, rfl⟩
  case round =>
    obtain ⟨n, X, rfl, hX0, hn0⟩ := hrel
    have HX : Hid (bytesN X = List.replicate n 59) := hX0
    have HN : Hid (∃ m, m ≤ 16 ∧ n = 2 ^ m) := hn0
    have hXs : X.size = n := by rw [← bytesN_length, hX0, List.length_replicate]
    have HP : Hid (0 < n) := lim_pos n hn0
    clear hX0 hn0
    by_cases hlt : n < 65536
    · go_wp2
      go_round
      case rel => exact ⟨n + n, _, rfl, by rw [lim_app, HX.out, List.replicate_append_replicate], lim_more n HN.out hlt⟩
      case measure =>
        have := HP.out
        simp only [strLen, ByteArray.size_append]
        simp
        omega
    · obtain rfl : n = 65536 := lim_end n HN.out hlt
      clear hlt HN HP
      have c5 := lim_cut X HX.out 32768 (by omega)
      have c6 := lim_cut X HX.out 32769 (by omega)
      have s5 : (X.extract 0 32768).size = 32768 := by rw [ByteArray.size_extract, hXs]; omega
      have s6 : (X.extract 0 32769).size = 32769 := by rw [ByteArray.size_extract, hXs]; omega
      have s7 : (X.extract 0 5).size = 5 := by rw [ByteArray.size_extract, hXs]; omega
      have T1 : Hid (tokens (bytesN (X.extract 0 32768)) = .ok (semis 0 32768)) := by
        unfold Hid; rw [c5, ← List.append_nil (List.replicate 32768 59)]; exact semi_full [] (by decide) (by decide)
      have T2 : Hid (tokens (bytesN (X.extract 0 32769)) = .error (32768, 3)) := by
        unfold Hid; rw [c6, show (32769 : Nat) = 32768 + 1 from rfl, ← List.replicate_append_replicate]; exact semi_more [59] (by decide) (by decide)
      have T3 : Hid (tokens (bytesN (X.extract 0 32768 ++ ⟨#[32, 35]⟩)) = .error (32769, 3)) := by
        unfold Hid; rw [lim_app, c5]; exact semi_more [32, 35] (by decide) (by decide)
      have T4 : Hid (tokens (bytesN (X ++ ⟨#[59]⟩)) = .error (0, 3)) := by
        unfold Hid; refine semi_long _ ?_; rw [bytesN_length, ByteArray.size_append, hXs]; decide
      have T5 : Hid (tokens (bytesN (X.extract 0 32768 ++ ⟨#[32, 47, 47, 32, 35]⟩)) = .ok (semis 0 32768)) := by
        unfold Hid; rw [lim_app, c5]; exact semi_full [32, 47, 47, 32, 35] (by decide) (by decide)
      have T6 : Hid (tokens (bytesN (X.extract 0 5 ++ ⟨#[35]⟩ ++ X)) = .error (0, 3)) := by
        unfold Hid; refine semi_long _ ?_; rw [bytesN_length, ByteArray.size_append, ByteArray.size_append, hXs, s7]; decide
      have Z1 : Hid ((X.extract 0 32768).size ≤ 1048576) := by unfold Hid; omega
      have Z2 : Hid ((X.extract 0 32769).size ≤ 1048576) := by unfold Hid; omega
      have Z3 : Hid ((X.extract 0 32768 ++ ⟨#[32, 35]⟩).size ≤ 1048576) := by unfold Hid; rw [ByteArray.size_append, s5]; decide
      have Z4 : Hid ((X ++ ⟨#[59]⟩).size ≤ 1048576) := by unfold Hid; rw [ByteArray.size_append, hXs]; decide
      have Z5 : Hid ((X.extract 0 32768 ++ ⟨#[32, 47, 47, 32, 35]⟩).size ≤ 1048576) := by unfold Hid; rw [ByteArray.size_append, s5]; decide
      have Z6 : Hid ((X.extract 0 5 ++ ⟨#[35]⟩ ++ X).size ≤ 1048576) := by unfold Hid; rw [ByteArray.size_append, ByteArray.size_append, s7, hXs]; decide
      have B0 : Hid (Below w.heap.size w w) := Below.refl _ _
      clear c5 c6 HX
      go_wp2_with fail
      refine (HF.out _ _ Z1.out T1.out HL.out).mono ?_
      rintro e w1 ⟨ao, cap, rfl, bel⟩
      have B1 : Hid (Below w.heap.size w w1) := below_chain B0.out bel (Nat.le_refl _)
      clear bel
      go_wp2_with fail
      refine (HO.out _ 32768 32768 _ Z2.out rfl T2.out (HL.out.on B1.out)).mono ?_
      rintro e w2 ⟨rfl, bel⟩
      have B2 : Hid (Below w.heap.size w w2) := below_chain B1.out bel (Nat.le_refl _)
      clear bel
      go_wp2_with fail
      refine (HO.out _ 32769 32769 _ Z3.out rfl T3.out (HL.out.on B2.out)).mono ?_
      rintro e w3 ⟨rfl, bel⟩
      have B3 : Hid (Below w.heap.size w w3) := below_chain B2.out bel (Nat.le_refl _)
      clear bel
      go_wp2_with fail
      refine (HO.out _ 0 0 _ Z4.out rfl T4.out (HL.out.on B3.out)).mono ?_
      rintro e w4 ⟨rfl, bel⟩
      have B4 : Hid (Below w.heap.size w w4) := below_chain B3.out bel (Nat.le_refl _)
      clear bel
      go_wp2_with fail
      refine (HF.out _ _ Z5.out T5.out (HL.out.on B4.out)).mono ?_
      rintro e w5 ⟨ao2, cap2, rfl, bel⟩
      have B5 : Hid (Below w.heap.size w w5) := below_chain B4.out bel (Nat.le_refl _)
      clear bel
      go_wp2_with fail
      refine (HO.out _ 0 0 _ Z6.out rfl T6.out (HL.out.on B5.out)).mono ?_
      rintro e w6 ⟨rfl, bel⟩
      have B6 : Hid (Below w.heap.size w w6) := below_chain B5.out bel (Nat.le_refl _)
      clear bel
      go_wp2_with fail
      refine (HWo.out _ (HL.out.on B6.out)).mono ?_
      rintro e w7 ⟨rfl, bel⟩
      go_wp2
      go_ret
      exact ⟨rfl, below_chain B6.out bel (Nat.le_refl _)⟩
end Go.Proofs.YteeoakbafbnkhaaDoor

/-
  THE WALK of LexKnown: the sources that are shown, each byte, signs beside one another, the limits: each held to the other laws, which answer true at any text; the limits by Tokens itself.
-/
namespace Go.Proofs.YteeoakbafbnkhaaDoor
open Go.RowKit
set_option linter.unusedVariables false

theorem tok_full : TokFull := by
  intro s w hs ht hL
  refine (tok_ok hs _ ht hL).mono ?_
  rintro e w' ⟨v, rfl, own, bel⟩
  obtain ⟨ao, cap, rfl⟩ := own_form own
  rw [semis_len]
  exact ⟨ao, cap, rfl, bel⟩
theorem tok_over : TokOver := by
  intro s p n w hs hp ht hL
  subst hp
  exact tok_no hs n 3 ht hL
theorem yes_tokens : Yes1 8 := fun s w h HL => lexTokens_walk s w h HL
theorem yes_words : Yes1 10 := fun s w h HL => lexWords_walk s w h HL
theorem yes_back : Yes1 11 := fun s w h HL => lexBack_walk s w h HL
theorem yes_names : Yes1 12 := fun s w h HL => lexNames_walk s w h HL
theorem yes_each (s : ByteArray) (h : s.size ≤ 1000) : Yes2 9 s := fun a w ha HL => lexEach_walk s a w (by unfold maxLen; omega) ha HL
theorem yes_lies (s : ByteArray) (h : s.size ≤ 1000) : Yes3 13 s := fun a b w ha hb HL => lexLies_walk s a b w (by unfold maxLen; omega) ha hb HL
theorem yes_works : Yes0 14 := fun w HL => works_any w HL
theorem yes_shown : Yes0 4 := shown_any yes_tokens yes_each yes_words yes_back yes_names yes_lies yes_works
theorem yes_bytes : Yes0 5 := bytes_any yes_tokens yes_words yes_back yes_names
theorem yes_beside : Yes0 6 := beside_any yes_tokens yes_lies
theorem yes_limits : Yes0 7 := limits_any tok_full tok_over yes_works
set_option maxRecDepth 100000 in
theorem lexKnown_walk (w : World) (HL : Hid (Laid w)) : Calls Tryd.prog 3 #[] w fun e w' => e = .returned (.bool true) ∧ Below w.heap.size w w' := by
  have B0 : Hid (Below w.heap.size w w) := Below.refl _ _
  go_enter Tryd.func3, Tryd.ntmps3
  go_wp2_with fail
  refine (yes_shown _ HL).mono ?_
  rintro e w1 ⟨rfl, bel⟩
  have B1 : Hid (Below w.heap.size w w1) := below_chain B0.out bel (Nat.le_refl _)
  clear bel
  go_wp2_with fail
  refine (yes_bytes _ (HL.out.on B1.out)).mono ?_
  rintro e w2 ⟨rfl, bel⟩
  have B2 : Hid (Below w.heap.size w w2) := below_chain B1.out bel (Nat.le_refl _)
  clear bel
  go_wp2_with fail
  refine (yes_beside _ (HL.out.on B2.out)).mono ?_
  rintro e w3 ⟨rfl, bel⟩
  have B3 : Hid (Below w.heap.size w w3) := below_chain B2.out bel (Nat.le_refl _)
  clear bel
  go_wp2_with fail
  refine (yes_limits _ (HL.out.on B3.out)).mono ?_
  rintro e w4 ⟨rfl, bel⟩
  go_wp2
  go_ret
  exact ⟨rfl, below_chain B3.out bel (Nat.le_refl _)⟩
end Go.Proofs.YteeoakbafbnkhaaDoor
