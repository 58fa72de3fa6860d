/-
  CONTRACT of the document's signs.
-/
import Derived.Test.YteeoakbafbnkhaaDoorSmall
import Derived.Below
namespace Go.Proofs.YteeoakbafbnkhaaDoor
open Go.RowKit
set_option linter.unusedVariables false

def signS : List ByteArray := [⟨#[60, 60]⟩, ⟨#[62, 62]⟩, ⟨#[61, 61]⟩, ⟨#[33, 61]⟩, ⟨#[60, 61]⟩, ⟨#[62, 61]⟩, ⟨#[38, 38]⟩, ⟨#[124, 124]⟩, ⟨#[40]⟩, ⟨#[41]⟩, ⟨#[123]⟩, ⟨#[125]⟩, ⟨#[91]⟩, ⟨#[93]⟩, ⟨#[44]⟩, ⟨#[59]⟩, ⟨#[58]⟩, ⟨#[46]⟩, ⟨#[43]⟩, ⟨#[45]⟩, ⟨#[42]⟩, ⟨#[47]⟩, ⟨#[37]⟩, ⟨#[38]⟩, ⟨#[124]⟩, ⟨#[94]⟩, ⟨#[126]⟩, ⟨#[33]⟩, ⟨#[60]⟩, ⟨#[62]⟩, ⟨#[61]⟩]
def signV : Array Value := (signS.map Value.string).toArray
theorem sign_same : signS.map bytesN = signL := rfl
theorem signV_at (j : Nat) (h : j < 31) : signV[j]? = some (.string (signS.getD j ⟨#[]⟩)) := by
  have h2 : j < signS.length := h
  unfold signV
  rw [List.getElem?_toArray, List.getElem?_map, List.getElem?_eq_getElem h2, List.getD_eq_getElem?_getD, List.getElem?_eq_getElem h2]
  rfl
set_option maxRecDepth 1000000 in
theorem rsigns_any (w : World) : Calls Tryd.prog 45 #[] w fun e w' => e = .returned (.slice (some ⟨w.heap.size, 0, none⟩) 31 31) ∧ w' = w.alloc (.cells signV 9) := by
  go_enter Tryd.func45, Tryd.ntmps45
  go_wp2
  go_ret
  exact ⟨rfl, rfl⟩
end Go.Proofs.YteeoakbafbnkhaaDoor
