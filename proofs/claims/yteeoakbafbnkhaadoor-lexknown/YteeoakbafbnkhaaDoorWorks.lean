/-
  CONTRACT of the law's own works; THE WALK of LexWords.
-/
import Derived.Test.YteeoakbafbnkhaaDoorXFace
import Derived.Test.YteeoakbafbnkhaaDoorXQuote
import Derived.Test.YteeoakbafbnkhaaDoorSpoilWalk
namespace Go.Proofs.YteeoakbafbnkhaaDoor
open Go.RowKit
set_option linter.unusedVariables false

theorem tok_ok {w : World} {s : ByteArray} (h : s.size ≤ 1048576) (ts : List (Nat × List Nat × Nat × Nat × Nat)) (ht : tokens (bytesN s) = .ok ts) (hL : Laid w) :
    Calls Tryd.prog 15 #[.string s] w fun e w' => ∃ v, e = .returned (.tuple #[v, .int .i64 0, .int .i64 0]) ∧ w'.ownsRow w.heap.size 39 5 v ts.length (rowT ts) ∧ Below w.heap.size w w' := xtokens_any s h (.ok ts) ht w hL
theorem tok_no {w : World} {s : ByteArray} (h : s.size ≤ 1048576) (p k : Nat) (ht : tokens (bytesN s) = .error (p, k)) (hL : Laid w) :
    Calls Tryd.prog 15 #[.string s] w fun e w' => e = .returned (.tuple #[.slice none 0 0, .int .i64 (p : Int), .int .i64 (k : Int)]) ∧ Below w.heap.size w w' := xtokens_any s h (.error (p, k)) ht w hL
set_option maxRecDepth 100000 in
set_option maxHeartbeats 1000000 in
theorem works_any (w : World) (HL : Hid (Laid w)) : Calls Tryd.prog 14 #[] w fun e w' => e = .returned (.bool true) ∧ Below w.heap.size w w' := by
  go_enter Tryd.func14, Tryd.ntmps14
  go_wp2_with fail
  refine (tok_ok (by decide) [(1, [97, 49], 0, 0, 2), (4, [60, 61], 0, 2, 4), (2, [105, 56], 12, 4, 8)] (by kernel_rfl) HL.out).mono ?_
  rintro e w1 ⟨v, rfl, own, bel⟩
  obtain ⟨ao, cap, rfl⟩ := own_form own
  have own' := own
  rcases own.2 with ⟨q, _⟩ | ⟨g, cap', cur, q, hB, hg, hle, hm, hs, ht⟩
  · simp at q
  · simp only [Value.slice.injEq] at q
    obtain ⟨rfl, _, rfl⟩ := q
    have hgs : g < w1.heap.size := (Array.getElem?_eq_some_iff.1 hg).1
    have cA : ∀ i, i < 15 → w1.cell? ⟨g, i, none⟩ = (rowT [(1, [97, 49], 0, 0, 2), (4, [60, 61], 0, 2, 4), (2, [105, 56], 12, 4, 8)])[i]? := fun i hi => own'.cellAt i (by simp; omega)
    have HC : Hid (∀ i, i < 15 → w1.cell? ⟨g, i, none⟩ = (rowT [(1, [97, 49], 0, 0, 2), (4, [60, 61], 0, 2, 4), (2, [105, 56], 12, 4, 8)])[i]?) := cA
    have B1 : Hid (Below w.heap.size w w1) := bel
    clear own own' hg hle hm hs ht hB cA bel
    go_wp2_with fail
    refine (tok_no (by decide) 2 33 (by kernel_rfl) (HL.out.on B1.out)).mono ?_
    rintro e w2 ⟨rfl, bel2⟩
    have c6 : w2.cell? ⟨g, 6, none⟩ = some (.string ⟨#[60, 61]⟩) := (bel2.cell (p := ⟨g, 6, none⟩) hgs).trans (HC.out 6 (by omega))
    have c10 : w2.cell? ⟨g, 10, none⟩ = some (.int .u8 2) := (bel2.cell (p := ⟨g, 10, none⟩) hgs).trans (HC.out 10 (by omega))
    have c11 : w2.cell? ⟨g, 11, none⟩ = some (.string ⟨#[105, 56]⟩) := (bel2.cell (p := ⟨g, 11, none⟩) hgs).trans (HC.out 11 (by omega))
    have c12 : w2.cell? ⟨g, 12, none⟩ = some (.int .u64 12) := (bel2.cell (p := ⟨g, 12, none⟩) hgs).trans (HC.out 12 (by omega))
    have c13 : w2.cell? ⟨g, 13, none⟩ = some (.int .i64 4) := (bel2.cell (p := ⟨g, 13, none⟩) hgs).trans (HC.out 13 (by omega))
    have c14 : w2.cell? ⟨g, 14, none⟩ = some (.int .i64 8) := (bel2.cell (p := ⟨g, 14, none⟩) hgs).trans (HC.out 14 (by omega))
    have B2 : Hid (Below w.heap.size w w2) := below_chain B1.out bel2 (Nat.le_refl _)
    clear bel2
    go_wp2_with fail
    refine (xquote_as ⟨#[10]⟩ ⟨#[34, 92, 110, 34]⟩ (by decide) (by rfl) _).mono ?_
    rintro e w3 ⟨rfl, bel3⟩
    have B3 : Hid (Below w.heap.size w w3) := below_chain B2.out bel3 (Nat.le_refl _)
    clear bel3
    go_wp2_with fail
    refine (xname_as ⟨#[97, 98]⟩ true (by decide) (by decide +kernel) _).mono ?_
    rintro e w4 ⟨rfl, bel4⟩
    have B4 : Hid (Below w.heap.size w w4) := below_chain B3.out bel4 (Nat.le_refl _)
    clear bel4
    go_wp2_with fail
    refine (xkept_as ⟨#[102, 110]⟩ true (by decide +kernel) _).mono ?_
    rintro e w5 ⟨rfl, bel5⟩
    go_wp2
    go_ret
    exact ⟨rfl, below_chain B4.out bel5 (Nat.le_refl _)⟩
end Go.Proofs.YteeoakbafbnkhaaDoor
