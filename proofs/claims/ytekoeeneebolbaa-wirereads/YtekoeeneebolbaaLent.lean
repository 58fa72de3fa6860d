/-
  CONTRACTS of LentCode and KeptCode (trammelkit): bytes of their own with a mark behind; are they still these?
-/
import Derived.Test.YtekoeeneebolbaaBackWalk
namespace Go.Proofs.Ytekoeeneebolbaa
open Go.RowKit

/-- Bytes that are lent: a row of a call's own that holds them, and the mark 77 behind. -/
def Lent (w : World) (B g cap : Nat) (xs : List Nat) : Prop := w.ownsRow B 5 1 (.slice (some ⟨g, 0, none⟩) (xs.length + 1) cap) (xs.length + 1) (nums (xs ++ [77]))

theorem owned_cap {w : World} {B g n cap : Nat} {xs : List Value} (h : w.ownsRow B 5 1 (.slice (some ⟨g, 0, none⟩) n cap) n xs) : n ≤ cap := by
  rcases h.2 with ⟨h0, _⟩ | ⟨g', cap', cur, hv, _, _, hn, _⟩
  · simp at h0
  · simp at hv; omega
theorem lent_lies {w : World} {B g cap : Nat} {xs : List Nat} (h : Lent w B g cap xs) (hb : ∀ c ∈ xs, c < 256) (hm : xs.length ≤ 65536) : Lies w (some ⟨g, 0, none⟩) xs := by
  refine ⟨hb, by omega, .inr ⟨g, 0, rfl, fun i hi => ?_⟩⟩
  unfold Lent at h
  rw [Nat.zero_add, h.cellAt i (by omega), nums_get _ i (by simp; omega)]
  simp [List.getD, List.getElem?_append, hi]
theorem lent_kept {w w' : World} {B g cap : Nat} {xs : List Nat} (h : Lent w B g cap xs) (hb : Below w.heap.size w w') : Lent w' B g cap xs := by
  unfold Lent at h ⊢
  refine ⟨h.1, ?_⟩
  rcases h.2 with ⟨h0, _⟩ | ⟨g', cap', cur, hv, hB, hg, rest⟩
  · simp at h0
  · exact .inr ⟨g', cap', cur, hv, hB, by rw [hb.block g' (Array.getElem?_eq_some_iff.1 hg).1]; exact hg, rest⟩
theorem lies_new (w : World) (xs : List Nat) (hb : ∀ c ∈ xs, c < 256) : xs.length ≤ 9223372036854775807 → Lies (w.alloc (.cells (nums xs).toArray 5)) (some ⟨w.heap.size, 0, none⟩) xs := by
  intro hm
  refine ⟨hb, hm, .inr ⟨_, 0, rfl, fun i hi => ?_⟩⟩
  rw [Nat.zero_add, cell_of_row _ w.heap.size i _ 5 _ (heap_alloc_new w _), ← nums_get xs i hi]
  simp

set_option maxRecDepth 100000 in
set_option maxHeartbeats 1000000 in
theorem lent_any (a : Option Addr) (L c : Nat) (xs : List Nat) (w : World) (hat : At w a xs) (hL : L = xs.length) (hno : a = none → c = 0) (hm : L ≤ 65536) :
    Calls Try.prog 17 #[.slice a L c] w fun e w' => ∃ g cap, e = .returned (.slice (some ⟨g, 0, none⟩) L cap) ∧ Lent w' w.heap.size g cap xs ∧ Below w.heap.size w w' := by
  have X : Hid (At w a xs) := hat
  have HL : Hid (L = xs.length) := hL
  have HN : Hid (a = none → c = 0) := hno
  have h77 : ∀ c ∈ [77], c < 256 := by decide
  clear hat hL hno
  go_enter Try.func17, Try.ntmps17
  go_wp2_with (first | (at_builtin; refine wpList_app rfl (.tmp 4) (.tmp 5) rfl w.heap.size (.slice none 0 0) 0 [] rfl (World.ownsRow_nil _ _ _ _) a L c xs rfl X.out.1 HL.out HN.out (by omega) (Nat.le_refl _) ?_; intro v1 w1 own1 below1) | (at_builtin; refine wpList_app rfl (.tmp 7) (.tmp 8) rfl w.heap.size v1 (0 + L) ([] ++ xs) rfl (own1.alloc _) (some ⟨w1.heap.size, 0, none⟩) 1 1 [77] rfl (lies_new w1 [77] h77 (by decide)) rfl (fun h => (Option.some_ne_none _ h).elim) (by omega) (by have := below1.size; simp; omega) ?_; intro v2 w2 own2 below2; obtain ⟨g, cap, hv⟩ := owned_form own2 (by omega); subst hv; have hcap := owned_cap own2))
  go_ret
  refine ⟨g, cap, rfl, ?_, ?_⟩
  · unfold Lent
    rw [← HL.out]
    have h := own2
    rw [Nat.zero_add, List.nil_append] at h
    exact h
  · have hb : Below w.heap.size w (w1.alloc (Obj.cells #[Value.int IntKind.u8 77] 5)) := below1.alloc below1.size _
    exact hb.trans below2

/-- KeptCode of lent bytes and of the bytes that were lent. -/
theorem kept_any (g cap : Nat) (B : Nat) (a : Option Addr) (L c : Nat) (xs : List Nat) (w : World) (hlent : Lent w B g cap xs) (hl : Lies w a xs) (hL : L = xs.length) (hm : L ≤ 65536) :
    Calls Try.prog 26 #[.slice (some ⟨g, 0, none⟩) L cap, .slice a L c] w fun e w' => e = .returned (.bool true) ∧ w = w' := by
  have c1 := conv_any (L := L) (cap := cap) (lent_lies hlent hl.1 (by omega)) hL
  have c2 := conv_any (L := L) (cap := c) hl hL
  have hcap : L + 1 ≤ cap := by have := owned_cap hlent; omega
  have hcell : w.cell? ⟨g, L, none⟩ = some (.int .u8 77) := by
    unfold Lent at hlent
    rw [hlent.cellAt L (by omega), hL]
    simp [nums]
  clear hlent hl hL
  go_enter Try.func26, Try.ntmps26
  go_wp2
  go_ret
  exact ⟨rfl, rfl⟩
end Go.Proofs.Ytekoeeneebolbaa
