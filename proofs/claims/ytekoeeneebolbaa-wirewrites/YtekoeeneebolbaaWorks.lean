/-
  WHAT THE STATEMENTS SHARE: from a row that a call owns to the bytes that lie there; bytes as a string; the law's own 'works'.
-/
import Derived.Test.YtekoeeneebolbaaFix
import Derived.Test.YtekoeeneebolbaaGetInts
import Derived.Test.YtekoeeneebolbaaWides
import Derived.Test.YtekoeeneebolbaaSums
import Derived.Laws.BytesArg
namespace Go.Proofs.Ytekoeeneebolbaa
open Go.RowKit

def strN (xs : List Nat) : ByteArray := strOfNums (xs.map fun (c : Nat) => (c : Int))

theorem nums_get (xs : List Nat) (i : Nat) (h : i < xs.length) : (nums xs)[i]? = some (.int .u8 ((xs.getD i 0 : Nat) : Int)) := by
  simp [nums, List.getD, h]

theorem lies_of_owns {w : World} {B g cap : Nat} {xs : List Nat} {n : Nat} (hn : n = xs.length) (h : w.ownsRow B 5 1 (.slice (some ⟨g, 0, none⟩) n cap) n (nums xs)) (hb : ∀ c ∈ xs, c < 256) (hm : xs.length ≤ 9223372036854775807) :
    Lies w (some ⟨g, 0, none⟩) xs := by
  subst hn
  refine ⟨hb, hm, .inr ⟨g, 0, rfl, fun i hi => ?_⟩⟩
  rw [Nat.zero_add, h.cellAt i (by omega), nums_get xs i hi]

theorem lies_below {w w' : World} {B : Nat} {g off : Nat} {xs : List Nat} (h : Lies w (some ⟨g, off, none⟩) xs) (hb : Below B w w') (hg : g < B) : Lies w' (some ⟨g, off, none⟩) xs := by
  obtain ⟨h1, h2, h3⟩ := h
  refine ⟨h1, h2, ?_⟩
  rcases h3 with h3 | ⟨b, o, e, hc⟩
  · exact .inl h3
  · refine .inr ⟨b, o, e, fun i hi => ?_⟩
    cases e
    exact (hb.cell (p := ⟨g, off + i, none⟩) hg).trans (hc i hi)

theorem conv_any {w : World} {a : Option Addr} {L cap : Nat} {xs : List Nat} (hl : Lies w a xs) (hL : L = xs.length) :
    (convert 23 9 (.slice a L cap)).run Try.prog w = .ok (.string (strN xs)) w := by
  obtain ⟨_, _, h3⟩ := hl
  subst hL
  rcases h3 with rfl | ⟨b, off, rfl, hc⟩
  · cases a with
    | none => exact run_convert_bytes_nil w 23 5 Try.underlying23 Try.underlying5 0 cap 9 Try.underlying9
    | some x =>
      show (convert 23 9 (.slice (some x) 0 cap)).run Try.prog w = _
      rw [run_convert_bytes_string w 23 9 5 (some x) 0 cap Try.underlying23 Try.underlying5 Try.underlying9]
      exact run_bytesToString w x 0 cap [] (by simp [loadCells, loadCellsFrom])
  · exact run_convert_bytes_arg w 23 5 Try.underlying23 Try.underlying5 b off _ cap (xs.map fun (c : Nat) => (c : Int)) (by simp) (fun i hi => by rw [hc i hi]; simp [List.getD, hi]) 9 Try.underlying9

theorem put300 : putN 300 = [172, 2] := by rw [putN_ge (by omega), putN_lt (by omega)]
theorem put300_any (w : World) : Calls Try.prog 9 #[.int .u64 300] w fun e w' => ∃ g, e = .returned (.slice (some ⟨g, 0, none⟩) 2 2) ∧
    w'.ownsRow w.heap.size 5 1 (.slice (some ⟨g, 0, none⟩) 2 2) 2 (nums [172, 2]) ∧ Below w.heap.size w w' := by
  have h := put_any 300 w (by omega)
  rw [put300] at h
  exact h
theorem get300 : gN [172, 2] 0 = 300 ∧ gP [172, 2] 0 = 2 ∧ gE [172, 2] 0 = 0 := by decide
theorem get300_any (g : Nat) (w : World) (hl : Lies w (some ⟨g, 0, none⟩) [172, 2]) : Calls Try.prog 18 #[.slice (some ⟨g, 0, none⟩) 2 2, .int .i64 0] w fun e w' =>
    e = .returned (.tuple #[.int .u64 300, .int .i64 2, .int .i64 0]) ∧ w = w' := by
  have h := get_any (some ⟨g, 0, none⟩) 2 2 [172, 2] 0 w hl rfl
  rw [get300.1, get300.2.1, get300.2.2] at h
  exact h
theorem str300 : strN [172, 2] = ⟨#[172, 2]⟩ := rfl

set_option maxHeartbeats 400000 in
theorem works_any (w : World) : Calls Try.prog 16 #[] w fun e w' => e = .returned (.bool true) ∧ Below w.heap.size w w' := by
  go_enter Try.func16, Try.ntmps16
  go_wp2_with (first | (go_at_call 9; refine (put300_any w).mono ?_; rintro e w1 ⟨g, rfl, hown, hbel⟩; have hl := lies_of_owns rfl hown (by decide) (by decide); have hcv := conv_any (L := 2) (cap := 2) hl rfl; rw [str300] at hcv; have HL : Hid (Lies w1 (some ⟨g, 0, none⟩) [172, 2]) := hl; have HB : Hid (Below w.heap.size w w1) := hbel; clear hl hown hbel) | (go_at_call 18; refine (get300_any g w1 HL.out).mono ?_; rintro e w' ⟨rfl, rfl⟩))
  go_ret
  exact ⟨rfl, HB.out⟩
end Go.Proofs.Ytekoeeneebolbaa
