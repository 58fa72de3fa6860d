/-
  THE NAMES; the law's own works; Pick.
-/
import Derived.Test.YtffnlcamobekoaaDoorAl
import Derived.Test.YtffnlcamobekoaaDoorEc
namespace Go.Proofs.YtffnlcamobekoaaDoor
open Go.RowKit
set_option linter.unusedVariables false

def nameL : List (List UInt8) := [[], [105, 56], [105, 51, 50], [105, 54, 52], [116, 114, 117, 101], [102, 97, 108, 115, 101], [116, 101, 120, 116], [103, 101, 116], [112, 117, 116], [112, 111, 112], [100, 117, 112], [97, 100, 100], [115, 117, 98], [109, 117, 108], [100, 105, 118], [114, 101, 109], [97, 110, 100], [111, 114], [120, 111, 114], [115, 104, 108], [115, 104, 114], [110, 101, 103], [110, 111, 116], [101, 113], [110, 101], [108, 116], [108, 101], [103, 116], [103, 101], [99, 111, 110, 118], [102, 108, 105, 112], [99, 97, 116], [115, 105, 122, 101], [99, 104, 97, 114, 97, 116], [99, 117, 116], [98, 121, 116, 101], [110, 101, 119], [102, 105, 101, 108, 100], [115, 101, 116, 102, 105, 101, 108, 100], [102, 105, 108, 108], [101, 109, 112, 116, 121], [97, 116], [115, 101, 116, 97, 116], [108, 101, 110], [112, 117, 115, 104], [100, 114, 111, 112], [106, 117, 109, 112], [117, 110, 108, 101, 115, 115], [119, 104, 101, 110], [115, 119, 105, 116, 99, 104], [99, 97, 108, 108], [114, 101, 116, 117, 114, 110], [116, 114, 97, 112]]
def nameB (op : Nat) : ByteArray := ⟨⟨nameL.getD op []⟩⟩
/-- The table of names lies where the program laid it. -/
def NamesAt (w : World) : Prop := ∀ i, i < 53 → w.cell? ⟨0, i, none⟩ = some (.string (nameB i))
theorem NamesAt.below {w w' : World} (h : NamesAt w) (hb : Below w.heap.size w w') : NamesAt w' := fun i hi => (hb.cell (p := ⟨0, i, none⟩) (World.block_lt_of_cell? w _ (h i hi))).trans (h i hi)
theorem nameB_big (op : Nat) (h : 53 ≤ op) : nameB op = ⟨#[]⟩ := by
  unfold nameB
  rw [List.getD_eq_getElem?_getD, List.getElem?_eq_none (by exact h)]; rfl
theorem name_as (op : Nat) (h256 : op < 256) {w : World} (hN : NamesAt w) : Calls Tryd.prog 15 #[.int .u8 (op : Int)] w fun e w' => e = .returned (.string (nameB op)) ∧ w = w' := by
  by_cases h : op < 53
  · have hc := hN op h
    generalize nameB op = s at *
    have h2 : (op : Int) < 53 := by omega
    go_enter Tryd.func15, Tryd.ntmps15
    go_wp2
    go_ret
    exact ⟨rfl, rfl⟩
  · rw [nameB_big op (by omega)]
    have h2 : (53 : Int) ≤ (op : Int) := by omega
    have h3 : (op : Int) < 256 := by omega
    go_enter Tryd.func15, Tryd.ntmps15
    go_wp2
    go_ret
    exact ⟨rfl, rfl⟩
theorem wdec : dec [2, 2, 1, 0, 0] 0 = (⟨2, 258, 0, []⟩, 5, 0) := by rfl
theorem wsize : (⟨2, 258, 0, []⟩ : In).size = 5 := by rfl
theorem lies_new (w : World) (xs : List Nat) (hb : ∀ c ∈ xs, c < 256) (hm : xs.length ≤ 9223372036854775807) : Lies (w.alloc (.cells (nums xs).toArray 5)) (some ⟨w.heap.size, 0, none⟩) xs := by
  refine ⟨hb, hm, .inr ⟨_, 0, rfl, fun i hi => ?_⟩⟩
  rw [Nat.zero_add, cell_of_row _ w.heap.size i _ 5 _ (heap_alloc_new w _), ← nums_get xs i hi]
  simp
set_option maxHeartbeats 2000000 in
set_option maxRecDepth 100000 in
theorem works_any {w : World} (hN : NamesAt w) : Calls Tryd.prog 9 #[] w fun e w' => e = .returned (.bool true) ∧ Below w.heap.size w w' := by
  have hl := lies_new w [2, 2, 1, 0, 0] (by decide) (by decide)
  have hc := dec_as (cap := 5) hl rfl 0
  rw [wdec] at hc
  have hb0 := new_below w (.cells (nums [2, 2, 1, 0, 0]).toArray 5)
  have hN0 := hN.below hb0
  have hnb : nameB 38 = ⟨#[115, 101, 116, 102, 105, 101, 108, 100]⟩ := rfl
  go_enter Tryd.func9, Tryd.ntmps9
  go_wp2_with fail
  refine Calls.mono hc ?_
  rintro e w2 ⟨v, rfl, hrow, -, b2⟩
  replace hN0 := hN0.below b2
  replace hb0 := hb0.trans (b2.mono hb0.size)
  have hr0 : Rw w2 46 2 v 0 [] := hrow
  obtain ⟨ao, cp, rfl, -⟩ := hr0.shape
  clear hc hl b2 hrow
  have oX := Own.new w2 #[.int .u8 2, .int .i64 258, .int .i64 0, .slice ao 0 cp] 24
  have b3 := new_below w2 (.cells #[.int .u8 2, .int .i64 258, .int .i64 0, .slice ao 0 cp] 24)
  replace hN0 := hN0.below b3
  replace hb0 := hb0.trans (b3.mono hb0.size)
  clear b3
  go_upto_region 2 with fail
  generalize w2.alloc (.cells #[.int .u8 2, .int .i64 258, .int .i64 0, .slice ao 0 cp] 24) = w3 at *
  obtain ⟨x0, x1, x2, x3, xf⟩ := own4 oX
  have hs := size_as (w := w3) (x := ⟨2, 258, 0, []⟩) (ao := ao) (cp := cp) ⟨by decide, by decide, by decide, ⟨by simp, .inl rfl⟩⟩ 0 rfl (by decide)
  rw [wsize] at hs
  go_wp2_with fail
  refine Calls.mono hs ?_
  rintro e w4 ⟨rfl, b4⟩
  replace hN0 := hN0.below b4
  replace hb0 := hb0.trans (b4.mono hb0.size)
  clear b4 hs
  have hn := name_as 38 (by decide) hN0
  rw [hnb] at hn
  go_wp2_with fail
  refine Calls.mono hn ?_
  rintro e w5 ⟨rfl, rfl⟩
  go_wp2
  go_ret
  exact ⟨rfl, hb0⟩
end Go.Proofs.YtffnlcamobekoaaDoor
