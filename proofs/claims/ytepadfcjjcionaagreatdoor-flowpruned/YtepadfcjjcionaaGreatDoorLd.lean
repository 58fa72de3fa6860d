/-
  The opening check of the statements, reckoned by the kernel: where the five names lie that package kinds keeps, it answers true.
-/
import Derived.Test.YtepadfcjjcionaaGreatDoorProg
import Derived.Test.YtepadfcjjcionaaGreatDoorE8
namespace Go.Proofs.YtepadfcjjcionaaGreatDoor
open Go.RowKit Go.Eng

def fiveC : List Value := [.string ⟨⟨[105, 56]⟩⟩, .string ⟨⟨[105, 51, 50]⟩⟩, .string ⟨⟨[105, 54, 52]⟩⟩, .string ⟨⟨[98, 111, 111, 108]⟩⟩, .string ⟨⟨[98, 121, 116, 101, 115]⟩⟩]
def five (T : TypeId) : List (Nat × Obj) := [(0, .cells ⟨fiveC⟩ T (0, 0))]
def FiveAt (w : World) : Prop := ∃ T, w.heap[0]? = some (.cells ⟨fiveC⟩ T (0, 0))
theorem FiveAt.lt {w : World} (h : FiveAt w) : 0 < w.heap.size := by obtain ⟨T, h⟩ := h; exact (Array.getElem?_eq_some_iff.1 h).1
theorem FiveAt.below {w w' : World} (h : FiveAt w) {n : Nat} (hn : 0 < n) (hb : Below n w w') : FiveAt w' := by obtain ⟨T, h⟩ := h; exact ⟨T, (hb.block 0 hn).trans h⟩
theorem FiveAt.laid {w : World} (h : FiveAt w) : ∃ T, LaidAt Tryz.prog 1 (five T) w := by
  have hlt := h.lt
  obtain ⟨T, h⟩ := h
  refine ⟨T, hlt, fun p hp => ?_⟩
  simp only [five, List.mem_singleton] at hp
  subst hp
  refine ⟨Nat.zero_lt_one, ⟨fiveC⟩, (0, 0), h, by simp, fun k v hv => ⟨v, by simpa using hv, ?_⟩, fun k _ _ h3 => by simp [inFrozen] at h3, fun h => h, fun _ => ⟨rfl, rfl⟩⟩
  have hm : v ∈ fiveC := by
    have := Array.mem_of_getElem? hv
    simpa using this
  have hf : ∀ u ∈ fiveC, flat u = true := by decide
  exact flat_refl _ _ (hf v hm)
theorem works_run (T : TypeId) : callT Tryz.prog 1 1000000 (five T) 11 [] = some (.bool true) := by kernel_rfl
theorem works_any {w : World} (h : FiveAt w) : Calls Tryz.prog 11 #[] w fun e w' => e = .returned (.bool true) ∧ Below w.heap.size w w' := by
  obtain ⟨T, hl⟩ := h.laid
  exact callT_flat (by kernel_rfl) (by decide) (works_run T) rfl rfl hl
end Go.Proofs.YtepadfcjjcionaaGreatDoor
