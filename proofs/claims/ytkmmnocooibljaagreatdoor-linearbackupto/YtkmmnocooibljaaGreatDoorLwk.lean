/-
  The opening check of the statements, reckoned by the kernel: where the instructions' names lie that package ops keeps, it answers true.
-/
import Derived.Test.YtkmmnocooibljaaGreatDoorProg
import Derived.Test.YtkmmnocooibljaaGreatDoorE8
namespace Go.Proofs.YtkmmnocooibljaaGreatDoor
open Go.RowKit Go.Eng

def nmC : List Value := [.string ⟨⟨[]⟩⟩, .string ⟨⟨[105, 56]⟩⟩, .string ⟨⟨[105, 51, 50]⟩⟩, .string ⟨⟨[105, 54, 52]⟩⟩, .string ⟨⟨[116, 114, 117, 101]⟩⟩, .string ⟨⟨[102, 97, 108, 115, 101]⟩⟩, .string ⟨⟨[116, 101, 120, 116]⟩⟩, .string ⟨⟨[103, 101, 116]⟩⟩, .string ⟨⟨[112, 117, 116]⟩⟩, .string ⟨⟨[112, 111, 112]⟩⟩, .string ⟨⟨[100, 117, 112]⟩⟩, .string ⟨⟨[97, 100, 100]⟩⟩, .string ⟨⟨[115, 117, 98]⟩⟩, .string ⟨⟨[109, 117, 108]⟩⟩, .string ⟨⟨[100, 105, 118]⟩⟩, .string ⟨⟨[114, 101, 109]⟩⟩, .string ⟨⟨[97, 110, 100]⟩⟩, .string ⟨⟨[111, 114]⟩⟩, .string ⟨⟨[120, 111, 114]⟩⟩, .string ⟨⟨[115, 104, 108]⟩⟩, .string ⟨⟨[115, 104, 114]⟩⟩, .string ⟨⟨[110, 101, 103]⟩⟩, .string ⟨⟨[110, 111, 116]⟩⟩, .string ⟨⟨[101, 113]⟩⟩, .string ⟨⟨[110, 101]⟩⟩, .string ⟨⟨[108, 116]⟩⟩, .string ⟨⟨[108, 101]⟩⟩, .string ⟨⟨[103, 116]⟩⟩, .string ⟨⟨[103, 101]⟩⟩, .string ⟨⟨[99, 111, 110, 118]⟩⟩, .string ⟨⟨[102, 108, 105, 112]⟩⟩, .string ⟨⟨[99, 97, 116]⟩⟩, .string ⟨⟨[115, 105, 122, 101]⟩⟩, .string ⟨⟨[99, 104, 97, 114, 97, 116]⟩⟩, .string ⟨⟨[99, 117, 116]⟩⟩, .string ⟨⟨[98, 121, 116, 101]⟩⟩, .string ⟨⟨[110, 101, 119]⟩⟩, .string ⟨⟨[102, 105, 101, 108, 100]⟩⟩, .string ⟨⟨[115, 101, 116, 102, 105, 101, 108, 100]⟩⟩, .string ⟨⟨[102, 105, 108, 108]⟩⟩, .string ⟨⟨[101, 109, 112, 116, 121]⟩⟩, .string ⟨⟨[97, 116]⟩⟩, .string ⟨⟨[115, 101, 116, 97, 116]⟩⟩, .string ⟨⟨[108, 101, 110]⟩⟩, .string ⟨⟨[112, 117, 115, 104]⟩⟩, .string ⟨⟨[100, 114, 111, 112]⟩⟩, .string ⟨⟨[106, 117, 109, 112]⟩⟩, .string ⟨⟨[117, 110, 108, 101, 115, 115]⟩⟩, .string ⟨⟨[119, 104, 101, 110]⟩⟩, .string ⟨⟨[115, 119, 105, 116, 99, 104]⟩⟩, .string ⟨⟨[99, 97, 108, 108]⟩⟩, .string ⟨⟨[114, 101, 116, 117, 114, 110]⟩⟩, .string ⟨⟨[116, 114, 97, 112]⟩⟩]
def nmL (T : TypeId) : List (Nat × Obj) := [(0, .cells ⟨nmC⟩ T (0, 0))]
def NmAt (w : World) : Prop := ∃ T, w.heap[0]? = some (.cells ⟨nmC⟩ T (0, 0))
theorem NmAt.lt {w : World} (h : NmAt w) : 0 < w.heap.size := by obtain ⟨T, h⟩ := h; exact (Array.getElem?_eq_some_iff.1 h).1
theorem NmAt.below {w w' : World} (h : NmAt w) {n : Nat} (hn : 0 < n) (hb : Below n w w') : NmAt w' := by obtain ⟨T, h⟩ := h; exact ⟨T, (hb.block 0 hn).trans h⟩
theorem NmAt.laid {w : World} (h : NmAt w) : ∃ T, LaidAt Tryz.prog 1 (nmL T) w := by
  have hlt := h.lt
  obtain ⟨T, h⟩ := h
  refine ⟨T, hlt, fun p hp => ?_⟩
  simp only [nmL, List.mem_singleton] at hp
  subst hp
  refine ⟨Nat.zero_lt_one, ⟨nmC⟩, (0, 0), h, by simp, fun k v hv => ⟨v, by simpa using hv, ?_⟩, fun k _ _ h3 => by simp [inFrozen] at h3, fun h => h, fun _ => ⟨rfl, rfl⟩⟩
  have hm : v ∈ nmC := by
    have := Array.mem_of_getElem? hv
    simpa using this
  have hf : ∀ u ∈ nmC, flat u = true := by decide
  exact flat_refl _ _ (hf v hm)
theorem works_run (T : TypeId) : callT Tryz.prog 1 1000000 (nmL T) 22 [] = some (.bool true) := by kernel_rfl
theorem lworks_any {w : World} (h : NmAt w) : Calls Tryz.prog 22 #[] w fun e w' => e = .returned (.bool true) ∧ Below w.heap.size w w' := by
  obtain ⟨T, hl⟩ := h.laid
  exact callT_flat (by kernel_rfl) (by decide) (works_run T) rfl rfl hl
end Go.Proofs.YtkmmnocooibljaaGreatDoor
