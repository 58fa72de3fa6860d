/-
  LexLies: tokens lie side by side, each alone is itself, and a blank put in changes nothing but places. No condition; the library variables that the row lists are tied to the program text.
-/
import Derived.Test.YtpjmdiofkkpbgaaDoorRows
import Derived.Test.YtpjmdiofkkpbgaaDoorCards
import Derived.Test.YtpjmdiofkkpbgaaDoorTie
import Derived.ProofKit
import Derived.OpenShut
import Derived.ShutString
import Derived.ChangeOld
import Derived.Below
import Derived.SevenTiedAt
import Derived.Stop.Joined
import Derived.Test.YtpjmdiofkkpbgaaDoorXLib
import Derived.LaidMore
import Derived.LaidLaws
import Derived.Stop.LaidErr
import Derived.Test.YtpjmdiofkkpbgaaDoorLiesJ0
import Derived.Test.YtpjmdiofkkpbgaaDoorLiesJ1
import Derived.Test.YtpjmdiofkkpbgaaDoorLiesJ2
import Derived.Test.YtpjmdiofkkpbgaaDoorLiesJ3
namespace Go.Proofs.YtpjmdiofkkpbgaaDoor
open Go.ChangeShapes Go.WideShapes Go.ChangeAt Go.RowKit
set_option linter.unusedVariables false

theorem own : ownKnob Tryd.prog.godebug = none := by kernel_rfl
theorem laidOut : laidOutB Tryd.prog = true := by kernel_rfl
def laidL : List (String × DataW Unit) := Rows.lexTokensRow.laid
theorem gRange : Tryd.prog.globalNamed "strconv.ErrRange" = some 2 := by kernel_rfl
theorem gRangeT : (Tryd.prog.globals[2]?).map (·.type) = some 55 := by kernel_rfl
theorem cellsErrs : Tryd.prog.cellsOf 100 = 1 := by kernel_rfl
theorem cellsStr : Tryd.prog.cellsOf 9 = 1 := by kernel_rfl
theorem starErr : "*" ++ "errors.errorString" = "*errors.errorString" := by decide
theorem rowErr (u : TypeId) (h : Tryd.prog.typeName? 3 u = some "*errors.errorString") : u = 98 :=
  typeName_ptr_named (nm := "errors.errorString") (by rw [starErr]; kernel_rfl) (by kernel_rfl) (by decide) u (by rw [starErr]; exact h)
/-- The door's own heap meets the list. -/
theorem door_met (os : Os) (args : Array Value) : laidMetH Tryd.prog laidL ((World.doorLaid Tryd.prog 62 os).forCall (fun _ _ => 0) ⟨#[], args, []⟩).memory :=
  laidMetH_of_parts3 (fuel := 8) (laidMet_of_run' 8 (by kernel_rfl) (by kernel_rfl)) (by kernel_rfl) (by kernel_rfl)
theorem of_laid {W : World} (h : laidMetH Tryd.prog laidL W) : Laid W := by
  rw [MakeChecks.laidMetH_plain _ _ _ (by kernel_rfl)] at h
  have h3 := h.tail.tail.tail
  obtain ⟨a, s, hv, _, _, _⟩ := laid_sentinel h3 gRange gRangeT Tryd.underlying55 rowErr Tryd.underlying98 Tryd.underlying100 rfl rfl Tryd.underlying9 cellsErrs cellsStr
  have hc : W.cell? ⟨2, 0, none⟩ = some (.iface 98 (.pointer (some a))) := by
    have h0 := World.var?_cell gRange hv 0
    simpa using h0
  refine ⟨?_, _, _, hc⟩
  unfold World.cell? at hc
  cases hq : W.heap[2]? with
  | none => rw [hq] at hc; simp at hc
  | some o => exact (Array.getElem?_eq_some_iff.1 hq).1
end Go.Proofs.YtpjmdiofkkpbgaaDoor
namespace Go.Proofs.YtpjmdiofkkpbgaaDoor
open Go.RowKit
set_option linter.unusedVariables false

theorem lies_i64 {x : Int} (h : (Lit.int .i64 x).wf = true) : -9223372036854775808 ≤ x ∧ x ≤ 9223372036854775807 := by
  simp only [Lit.wf, IntKind.min, IntKind.max, IntKind.signed, IntKind.bits, Bool.and_eq_true, decide_eq_true_eq, if_true] at h
  omega
set_option maxRecDepth 100000 in
theorem lexLies_walk (s : ByteArray) (cut kind : Int) (w : World) (hmax0 : s.size ≤ maxLen) (hc : (Lit.int .i64 cut).wf = true) (hk : (Lit.int .i64 kind).wf = true) (HL : Hid (Laid w)) : Calls Tryd.prog 6 #[.string s, .int .i64 cut, .int .i64 kind] w fun e w' => e = .returned (.bool true) ∧ Below w.heap.size w w' := by
  have hmax : s.size ≤ 9223372036854775807 := hmax0
  clear hmax0
  by_cases hbig : 8192 < s.size
  · go_enter Tryd.func6, Tryd.ntmps6
    go_wp2
    go_ret
    exact ⟨rfl, Below.refl _ _⟩
  · cases h : tokens (bytesN s) with
    | error x =>
      obtain ⟨p, k⟩ := x
      exact lexLies_no s cut kind hbig p k h (by have := tokens_errk _ _ _ h; simp; omega) (by have := tokens_err_at _ _ _ h; rw [bytesN_length] at this; exact this) w HL
    | ok ts =>
      have hlen := tokens_len _ _ h
      rw [bytesN_length] at hlen
      have e7 : cut % 7 = ((cut % 7).toNat : Int) := by omega
      have n0 : ((ts.length : Int) + 1) ≠ 0 := by omega
      have eK0 := Int.emod_nonneg cut n0
      have eK1 := Int.emod_lt_of_pos cut (show 0 < (ts.length : Int) + 1 by omega)
      have hJ : kind % 4 = 0 ∨ kind % 4 = 1 ∨ kind % 4 = 2 ∨ kind % 4 = 3 := by omega
      rcases hJ with hJ | hJ | hJ | hJ
      · exact lexLies_ok0 s cut kind (lies_i64 hc) (lies_i64 hk) hbig ts h ts.length rfl (by omega) (cut % 7).toNat (cut % ((ts.length : Int) + 1)).toNat e7 (by omega) (by omega) (by omega) hJ w HL
      · exact lexLies_ok1 s cut kind (lies_i64 hc) (lies_i64 hk) hbig ts h ts.length rfl (by omega) (cut % 7).toNat (cut % ((ts.length : Int) + 1)).toNat e7 (by omega) (by omega) (by omega) hJ w HL
      · exact lexLies_ok2 s cut kind (lies_i64 hc) (lies_i64 hk) hbig ts h ts.length rfl (by omega) (cut % 7).toNat (cut % ((ts.length : Int) + 1)).toNat e7 (by omega) (by omega) (by omega) hJ w HL
      · exact lexLies_ok3 s cut kind (lies_i64 hc) (lies_i64 hk) hbig ts h ts.length rfl (by omega) (cut % 7).toNat (cut % ((ts.length : Int) + 1)).toNat e7 (by omega) (by omega) (by omega) hJ w HL
end Go.Proofs.YtpjmdiofkkpbgaaDoor
namespace Go.Proofs.YtpjmdiofkkpbgaaDoor
open Go.ChangeShapes Go.WideShapes Go.ChangeAt Go.RowKit
open Go.ChangeMaps (open_string shut_string)
set_option linter.unusedVariables false

set_option maxRecDepth 100000 in
theorem lexLies_lifted (os : Os) (started : os.Started) (H : Type) (enc : TypeId × Value → H) :
    ReturnsInHanded {} Tryd.checked os 6 .any (fun w args => (Rows.lexLiesSpec.pre enc Tryd.prog Tryd.f6 [] false w args ∧ laidMetH Tryd.prog laidL w) ∧ sizedMet enc Tryd.prog Tryd.f6 (OpenSpec.ofChange Rows.lexLiesSpec) false w args)
      (Rows.lexLiesSpec.post enc Tryd.prog Tryd.f6 false true false false) := by
  refine returnsInHanded_of_change_and (C := Tryd.checked) (X := fun w _ => laidMetH Tryd.prog laidL w) (fun _ _ _ hh h => h.of_heap hh) own started (by kernel_rfl) Tryd.func6
    (ChangeSpec.witness_shaped (enc := enc) (C := Tryd.checked) (os := os) (X := fun w _ => laidMetH Tryd.prog laidL w) false (World.doorLaid Tryd.prog 62 os) #[.string ⟨#[]⟩, .int .i64 0, .int .i64 0] 8 rfl (World.shaped_of_RefB (by kernel_rfl) (by kernel_rfl)) (by kernel_rfl) (by kernel_rfl) (by kernel_rfl) (door_met os _)) ?_
  intro W base args ds gs before hval0 hW _ _ hL _
  have hval : ∀ (j : Nat) t v, Tryd.f6.params[j]? = some t → args[j]? = some v → Value.okWide Tryd.prog W .any base t v := hval0
  have hW' := hW
  obtain ⟨p, q, hA0, hV, rfl, hfz, hnd⟩ := hW
  have hA : DataW.TrodAll enc Tryd.prog W 0 (fun _ => true) true Tryd.f6.params.toList args.toList ds p := hA0
  rw [Tryd.params6] at hA hval
  obtain ⟨v0, vs0, d0, ds0, p0, q0, hargs, rfl, rfl, h0, r0⟩ := trodAll_cons hA
  obtain ⟨v1, vs1, d1, ds1, p1, q1, rfl, rfl, rfl, h1, r1⟩ := trodAll_cons r0
  obtain ⟨v2, vs2, d2, ds2, p2, q2, rfl, rfl, rfl, h2, r2⟩ := trodAll_cons r1
  obtain ⟨rfl, rfl, rfl⟩ := trodAll_nil r2
  obtain rfl : args = #[v0, v1, v2] := by cases args; simp_all
  obtain ⟨rfl, rfl⟩ := trodVars_none hV
  obtain ⟨a0, rfl, rfl, rfl, w0⟩ := open_string Tryd.underlying9 (hval 0 9 v0 rfl rfl) h0
  obtain ⟨a1, rfl, rfl, rfl, w1⟩ := open_int Tryd.underlying3 (hval 1 3 v1 rfl rfl) h1
  obtain ⟨a2, rfl, rfl, rfl, w2⟩ := open_int Tryd.underlying3 (hval 2 3 v2 rfl rfl) h2
  clear hA0 hval0
  refine (lexLies_walk a0 a1 a2 W w0 w1 w2 (of_laid hL)).mono fun e W' ⟨he, bel⟩ => ?_
  subst he
  exact ⟨_, rfl, _, _, _, [], _, [], hW', trodAll_mk1 (shut_bool Tryd.underlying4 _), (trodAll_cons_mk (shut_string Tryd.underlying9 w0) (trodAll_cons_mk (shut_int Tryd.underlying3 w1) (trodAll_cons_mk (shut_int Tryd.underlying3 w2) trodAll_mk0))), rfl, bel.frame _, fun h => by cases h⟩

theorem lexLies_over : Rows.LexLiesSaid :=
  OpenClaim.holds_of_wide 6 Tryd.f6 rfl rfl rfl rfl rfl rfl rfl ⟨rfl, rfl, rfl, rfl, rfl⟩ rfl rfl rfl rfl rfl (by kernel_rfl) Tryd.func6 (by kernel_rfl)
    (of_decide_eq_true (by kernel_rfl)) (by unfold Func.isWrapper; first | (rw [if_pos (by decide +kernel)]; kernel_rfl) | (rw [if_neg (by decide +kernel)]; exact ⟨rfl, rfl⟩))
    (fun os started H enc _ => lexLies_lifted os started H enc)

/-- THE STATEMENT: the tied card. -/
theorem lexLies_holds : Rows.LexLiesCardSaid :=
  Claim7.holds_tied_plain_at .later [] [.data, .data, .data, .sentinel, .sentinel] true (true, "1a64490513953da29a4e6290d7fd9063f47dafbe8320c46edabac583ebfece46") true
    lexLies_over (fun _ h => by cases h) (by kernel_rfl) (fun _ h => by cases h) lexLies_row_tie rfl ⟨rfl, rfl⟩ (by kernel_rfl) rfl
    (fun f fn hf hfn => by
      obtain rfl : f = 6 := Option.some.inj ((show Tryd.prog.funcNamed Rows.lexLiesRow.func = some 6 by kernel_rfl).symm.trans hf) |>.symm
      obtain rfl : fn = Tryd.f6 := (Option.some.inj (Tryd.func6.symm.trans hfn)).symm
      exact ⟨by kernel_rfl, fun j t ht => by
        rw [Tryd.params6] at ht
        have hm : t ∈ [9, 3, 3] := by simpa using Array.mem_of_getElem? ht
        have hall : ([9, 3, 3].all fun u => !Tryd.prog.wantsStandIn u) = true := by kernel_rfl
        exact (show Tryd.prog.wantsStandIn t = false by simpa using List.all_eq_true.1 hall t hm)⟩)
    (by kernel_rfl)
#print axioms lexLies_holds
end Go.Proofs.YtpjmdiofkkpbgaaDoor
