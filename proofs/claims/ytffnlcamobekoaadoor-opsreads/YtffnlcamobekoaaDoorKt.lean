/-
  WHAT THE STATEMENTS SHARE: bytes as a string; Pick; a region that draws and only makes memory; numbers of what is an instruction.
-/
import Derived.Test.YtffnlcamobekoaaDoorWk
import Derived.Laws.BytesArg
namespace Go.Proofs.YtffnlcamobekoaaDoor
open Go.RowKit
set_option linter.unusedVariables false

def strN (xs : List Nat) : ByteArray := strOfNums (xs.map fun (c : Nat) => (c : Int))
theorem conv_any {w : World} {a : Option Addr} {L cap : Nat} {xs : List Nat} (hl : Lies w a xs) (hL : L = xs.length) :
    (convert 27 9 (.slice a L cap)).run Tryd.prog w = .ok (.string (strN xs)) w := by
  obtain ⟨_, _, h3⟩ := hl
  subst hL
  rcases h3 with rfl | ⟨b, off, rfl, hc⟩
  · cases a with
    | none => exact run_convert_bytes_nil w 27 5 Tryd.underlying27 Tryd.underlying5 0 cap 9 Tryd.underlying9
    | some x =>
      show (convert 27 9 (.slice (some x) 0 cap)).run Tryd.prog w = _
      rw [run_convert_bytes_string w 27 9 5 (some x) 0 cap Tryd.underlying27 Tryd.underlying5 Tryd.underlying9]
      exact run_bytesToString w x 0 cap [] (by simp [loadCells, loadCellsFrom])
  · exact run_convert_bytes_arg w 27 5 Tryd.underlying27 Tryd.underlying5 b off _ cap (xs.map fun (c : Nat) => (c : Int)) (by simp) (fun i hi => by rw [hc i hi]; simp [List.getD, hi]) 9 Tryd.underlying9
def After (w2 : World) : Type := { w' : World // Below w2.heap.size w2 w' }
theorem after_of {w2 w' : World} (h : Below w2.heap.size w2 w') : ∃ t : After w2, w' = t.1 := ⟨⟨w', h⟩, rfl⟩
theorem quiet_new {w2 : World} {f : FuncId} {args : Array Value} {v : Value} (t : After w2) (h : Calls Tryd.prog f args t.1 fun e w' => e = .returned v ∧ Below t.1.heap.size t.1 w') :
    Calls Tryd.prog f args t.1 fun e w'' => e = .returned v ∧ ∃ t' : After w2, w'' = t'.1 :=
  h.mono fun _ w' ⟨he, hb⟩ => ⟨he, ⟨w', t.2.trans (hb.mono t.2.size)⟩, rfl⟩
theorem wp_region_after {id : Nat} {Q : Exit → Act → World → Prop} {a : Act} {w : World} {l : List Oper} (hm : Tryd.prog.follows .mixedOrders = true) (hB : Region.lexB .any l.toArray = true)
    (h : wpQuiet Tryd.prog l.toArray (fun w' => ∃ t : After w, w' = t.1) (fun a' => ∀ w', (∃ t : After w, w' = t.1) → Q .normal a' w') l a) : (Code.region id l.toArray true).wp Tryd.prog Q a w :=
  wp_region_quiet (C := fun w' => ∃ t : After w, w' = t.1) hm hB (after_of ⟨rfl, rfl, rfl, Nat.le_refl _, fun _ _ => rfl⟩) (by simpa using h)
theorem may_in {k : Nm} (hk : k.Ok) {n : Int} (h : k.may n = true) : -9223372036854775808 ≤ n ∧ n ≤ 9223372036854775807 := by
  have := of_decide_eq_true h
  have := hk.l64
  have := hk.h64
  omega
/-- What is an instruction has numbers in bounds. -/
theorem ok_in {x : In} (h : x.ok = true) : x.op < 256 ∧ (-9223372036854775808 ≤ x.a ∧ x.a ≤ 9223372036854775807) ∧ (-9223372036854775808 ≤ x.b ∧ x.b ≤ 9223372036854775807) ∧ (∀ y ∈ x.arms, (-9223372036854775808 ≤ y.1 ∧ y.1 ≤ 9223372036854775807) ∧ (-9223372036854775808 ≤ y.2 ∧ y.2 ≤ 9223372036854775807)) ∧ x.arms.length ≤ 65535 := by
  unfold In.ok at h
  cases hl : lay x.op with
  | none => rw [hl] at h; cases h
  | some l =>
    rw [hl] at h
    simp only [Lay.has, Bool.and_eq_true] at h
    obtain ⟨h1, h2, h3⟩ := h
    obtain ⟨hok, ho1, ho2⟩ := lay_ok hl
    refine ⟨by omega, may_in hok.a h1, may_in hok.b h2, ?_⟩
    unfold Lay.hasArms at h3
    by_cases ha : l.arms = true
    · rw [if_pos ha, Bool.and_eq_true, decide_eq_true_eq, List.all_eq_true] at h3
      refine ⟨fun y hy => ?_, h3.1⟩
      have := h3.2 y hy
      rw [Bool.and_eq_true] at this
      exact ⟨may_in (okVal _) this.1, may_in okPlace this.2⟩
    · rw [if_neg ha] at h3
      rw [List.isEmpty_iff.1 h3]
      exact ⟨by simp, by simp⟩
theorem enc_small (x : In) : x.enc.length ≤ 1000000 := by
  rw [enc_length]
  by_cases h : x.ok = true
  · have := (ok_in h).2.2.2.2
    unfold In.size
    split
    · omega
    · rename_i l hl
      have ho := (lay_ok hl).1
      have := ho.a.sz
      have := ho.b.sz
      split
      · unfold Lay.size; split <;> omega
      · omega
  · have h0 : ¬ 0 < x.size := fun q => h ((size_pos x).2 q)
    omega
/-- Pick. -/
def pk (i n : Int) : Int := if n < 1 then 0 else i % n
set_option maxRecDepth 100000 in
theorem pick_as (i n : Int) (h1 : -9223372036854775808 ≤ i) (h2 : i ≤ 9223372036854775807) (hn : n ≤ 9223372036854775807) (p : Int) (hp : pk i n = p) (w : World) : Calls Tryd.prog 32 #[.int .i64 i, .int .i64 n] w fun e w' => e = .returned (.int .i64 p) ∧ w = w' := by
  unfold pk at hp
  by_cases h0 : n < 1
  · rw [if_pos h0] at hp
    subst hp
    go_enter Tryd.func32, Tryd.ntmps32
    go_wp2
    go_ret
    exact ⟨rfl, rfl⟩
  · rw [if_neg h0] at hp
    have hz : (n == 0) = false := by simp; omega
    have hm : n ≠ -1 := by omega
    by_cases hneg : i.tmod n < 0
    · have hq : i.tmod n + n = p := by
        rw [← hp]
        rw [Int.tmod_eq_emod] at hneg ⊢
        split at hneg
        · have := Int.emod_nonneg i (show n ≠ 0 by omega); omega
        · rename_i hh; rw [if_neg hh]; omega
      have hb := Int.tmod_lt_of_pos i (show 0 < n by omega)
      have hb2 : -n < i.tmod n := by
        have := Int.emod_nonneg i (show n ≠ 0 by omega)
        rw [Int.tmod_eq_emod]; split <;> omega
      clear hp
      go_enter Tryd.func32, Tryd.ntmps32
      go_wp2
      go_ret
      refine ⟨ret_int ?_, rfl⟩
      first | rfl | exact hq | (unfold wrap64; omega)
    · have hq : i.tmod n = p := by
        rw [← hp]
        rw [Int.tmod_eq_emod] at hneg ⊢
        have := Int.emod_nonneg i (show n ≠ 0 by omega)
        have := Int.emod_lt_of_pos i (show 0 < n by omega)
        split
        · omega
        · rename_i hh; rw [if_neg hh] at hneg; omega
      clear hp
      subst hq
      go_enter Tryd.func32, Tryd.ntmps32
      go_wp2
      go_ret
      exact ⟨rfl, rfl⟩
end Go.Proofs.YtffnlcamobekoaaDoor
