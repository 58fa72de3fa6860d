/-
  WordReckons: for any op, any width and any two numbers, Two, One and Test answer what the document says. No condition.
-/
import Derived.Test.YtnfglmfioifciaaRows
import Derived.Test.YtnfglmfioifciaaReckonsWalk
import Derived.ProofKit
import Derived.OpenShut
import Derived.ChangeOld
import Derived.Below
import Derived.Lib.SmallJoins
namespace Go.Proofs.Ytnfglmfioifciaa
open Go.ChangeShapes Go.WideShapes Go.ChangeAt Go.RowKit Go.Joins
set_option linter.unusedVariables false

theorem own : ownKnob Try.prog.godebug = none := by kernel_rfl
theorem cells27 : Try.prog.cellsOf 27 = 4 := by kernel_rfl

set_option maxRecDepth 100000 in
theorem wordReckons_lifted (os : Os) (started : os.Started) (H : Type) (enc : TypeId × Value → H) :
    ReturnsInHanded {} Try.checked os 4 .any (Rows.wordReckonsSpec.pre6 enc Try.prog Try.f4 Rows.wordReckonsRow.domain false) (Rows.wordReckonsSpec.post enc Try.prog Try.f4 false true false false) := by
  refine returnsInHanded_of_change (C := Try.checked) own started (by kernel_rfl) Try.func4
    (ChangeSpec.witness6 (enc := enc) (C := Try.checked) false ⟨#[], #[.agg #[.int .u8 0, .int .u8 0, .int .i64 0, .int .i64 0]], []⟩ 8 (by kernel_rfl) (by kernel_rfl) (by kernel_rfl) (by kernel_rfl)) ?_
  intro W base args ds gs before hval0 hW hcnd _
  have hval : ∀ (j : Nat) t v, Try.f4.params[j]? = some t → args[j]? = some v → Value.okWide Try.prog W .any base t v := hval0
  have hW' := hW
  obtain ⟨p, q, hA0, hV, rfl, hfz, hnd⟩ := hW'
  have hA : DataW.TrodAll enc Try.prog W 0 (fun _ => true) true Try.f4.params.toList args.toList ds p := hA0
  rw [Try.params4] at hA hval
  obtain ⟨v0, vs0, d0, ds0, p0, q0, hargs, rfl, rfl, h0, r0⟩ := trodAll_cons hA
  obtain ⟨rfl, rfl, rfl⟩ := trodAll_nil r0
  obtain rfl : args = #[v0] := by cases args; simp_all
  obtain ⟨rfl, rfl⟩ := trodVars_none hV
  obtain ⟨e0, e1, e2, e3, y0, y1, y2, y3, m, rfl, rfl, rfl, hy0, hy1, hy2, hy3⟩ := open_agg4 Try.underlying27 (by kernel_rfl) cells27 (hval 0 27 v0 rfl rfl) h0
  obtain ⟨op, k0, rfl, wo⟩ := DataW.trod_int Try.underlying5 hy0
  obtain ⟨x, k1, rfl, wx⟩ := DataW.trod_int Try.underlying5 hy1
  obtain ⟨a, k2, rfl, wa⟩ := DataW.trod_int Try.underlying2 hy2
  obtain ⟨b, k3, rfl, wb⟩ := DataW.trod_int Try.underlying2 hy3
  simp at k0 k1 k2 k3
  subst k0 k1 k2 k3
  clear hA0 hval0
  simp only [List.append_nil] at hW
  have structReads : ∀ (W' : World) (sp : Nat → Bool), DataW.Trod enc Try.prog W' 0 sp true 27 (.agg #[.int .u8 op, .int .u8 x, .int .i64 a, .int .i64 b]) (.agg [.lit (.int .u8 op), .lit (.int .u8 x), .lit (.int .i64 a), .lit (.int .i64 b)]) [] := fun W' sp =>
    shut_agg4 (y0 := (.lit (.int .u8 op), [])) (y1 := (.lit (.int .u8 x), [])) (y2 := (.lit (.int .i64 a), [])) (y3 := (.lit (.int .i64 b), [])) Try.underlying27 (by kernel_rfl) cells27
      ⟨1, by simp [DataW.trod, Try.underlying5, wo]⟩ ⟨1, by simp [DataW.trod, Try.underlying5, wx]⟩ ⟨1, by simp [DataW.trod, Try.underlying2, wa]⟩ ⟨1, by simp [DataW.trod, Try.underlying2, wb]⟩
  refine (reckons_walk op x a b _ _ _ _ (bounds_i64 wa) (bounds_i64 wb) rfl rfl rfl rfl W).mono fun e W' ⟨he, bel⟩ => ?_
  subst he
  exact ⟨_, rfl, _, _, _, [], [], [], hW, trodAll_mk1 (shut_bool Try.underlying4 _), trodAll_mk1 (structReads W' _), rfl, bel.frame _, fun h => by cases h⟩

theorem wordReckons_over : Rows.wordReckonsRow.holds Try.pinned (OpenSpec.ofChange Rows.wordReckonsSpec) :=
  OpenClaim.holds_of_wide 4 Try.f4 rfl rfl rfl rfl rfl rfl rfl ⟨rfl, rfl, rfl, rfl, rfl⟩ rfl rfl rfl rfl rfl (by kernel_rfl) Try.func4 (by kernel_rfl)
    (of_decide_eq_true (by kernel_rfl)) (by unfold Func.isWrapper; first | (rw [if_pos (by decide +kernel)]; kernel_rfl) | (rw [if_neg (by decide +kernel)]; exact ⟨rfl, rfl⟩))
    (fun os started H enc _ => wordReckons_lifted os started H enc)

/-- THE STATEMENT. -/
theorem wordReckons_holds : Rows.WordReckonsSaid := wordReckons_over
#print axioms wordReckons_holds
end Go.Proofs.Ytnfglmfioifciaa
