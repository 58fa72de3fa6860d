/-
  THE MODULE WITHOUT ANYTHING, as bytes: Encode, works.
-/
import Derived.Test.YtghkanagiobggaaWf
import Derived.Test.YtghkanagiobggaaWg
import Derived.Test.YtghkanagiobggaaWi
import Derived.Test.YtghkanagiobggaaV5
import Derived.Lib.SlBytesConst
namespace Go.Proofs.Ytghkanagiobggaa
open Go.RowKit Go.Lib
set_option linter.unusedVariables false

theorem sum000 : Q01.sumN [0, 0, 0] = 4282505490 := by decide
theorem fix3 : fixN 3 4 = [3, 0, 0, 0] := by decide
theorem fixS : fixN 4282505490 4 = [18, 217, 65, 255] := by decide
def eBytes : List Nat := [84, 82, 77, 1, 3, 0, 0, 0, 0, 0, 0, 18, 217, 65, 255]
theorem own_lies {w : World} {B g n cap : Nat} {xs : List Nat} (hn : n = xs.length) (h : w.ownsRow B 5 1 (.slice (some ⟨g, 0, none⟩) n cap) n (nums xs)) (hb : ∀ c ∈ xs, c < 256) (hm : xs.length ≤ 100) : Lies w (some ⟨g, 0, none⟩) xs := lies_row hn h hb (by omega)
theorem fixed_lit (x : Int) (n : Nat) (hx : x = (n : Int)) (l : List Nat) (hl : fixN n 4 = l) (w : World) (h : n < 18446744073709551616) :
    Calls Try.prog 20 #[.int .u64 x, .int .i64 4] w fun e w' => ∃ g, e = .returned (.slice (some ⟨g, 0, none⟩) 4 4) ∧ w'.ownsRow w.heap.size 5 1 (.slice (some ⟨g, 0, none⟩) 4 4) 4 (nums l) ∧ Below w.heap.size w w' := by
  subst hx
  subst hl
  exact fixed_any n 4 w h (by omega) (by omega)
theorem sum_lit (b c : Nat) (w : World) (x : Int) (hx : x = ((Q01.sumN [0, 0, 0] : Nat) : Int)) (hc : ∀ i, i < ([0, 0, 0] : List Nat).length → w.cell? ⟨b, 0 + i, none⟩ = some (.int .u8 ((([0, 0, 0] : List Nat).getD i 0 : Nat) : Int))) :
    Calls Try.prog 21 #[.slice (some ⟨b, 0, none⟩) 3 c] w fun e w' => e = .returned (.int .u32 x) ∧ w = w' := by
  subst hx
  exact Q01.sum_row b 0 3 c [0, 0, 0] w rfl (by simp) (by omega) hc
theorem litS : (4282505490 : Int) = ((Q01.sumN [0, 0, 0] : Nat) : Int) := by rw [sum000]; rfl
theorem row0 {w : World} {B : Nat} {e : TypeId} {sz n : Nat} {v : Value} {xs : List Value} (h : w.ownsRow B e sz v n xs) : Rw w e sz v n xs := by
  rcases h with ⟨h1, h2 | ⟨g, cap, cur, h2, -, h3⟩⟩
  · exact ⟨h1, .inl h2⟩
  · exact ⟨h1, .inr ⟨g, cap, cur, h2, Nat.zero_le _, h3⟩⟩
theorem marked_lies (w : World) : Lies (w.alloc (.cells #[.int .u8 84, .int .u8 82, .int .u8 77, .int .u8 1] 5 (4, 5))) (some ⟨w.heap.size, 0, none⟩) [84, 82, 77, 1] := by
  refine ⟨by simp, by simp, .inr ⟨w.heap.size, 0, rfl, fun i hi => ?_⟩⟩
  rw [Nat.zero_add, cell_of_row _ w.heap.size i _ _ _ (heap_alloc_new w _)]
  have : i = 0 ∨ i = 1 ∨ i = 2 ∨ i = 3 := by simp at hi; omega
  rcases this with rfl | rfl | rfl | rfl <;> rfl
set_option maxHeartbeats 2000000 in
set_option maxRecDepth 100000 in
theorem encode_empty (w : World) : Calls Try.prog 9 #[.agg zMo] w fun e w' => ∃ a c, e = .returned (.tuple #[.slice a 15 c, .int .i64 0]) ∧ Rw w' 5 1 (.slice a 15 c) 15 (nums eBytes) ∧ Below w.heap.size w w' := by
  have o1 := Own.new w zMo 26
  have hb := new_below w (.cells zMo 26)
  have kc : ∀ w : World, (convert 37 37 (.slice (some ⟨w.heap.size, 0, none⟩) 4 4)).run Try.prog (w.alloc (.cells #[.int .u8 84, .int .u8 82, .int .u8 77, .int .u8 1] 5)) = .ok (.slice (some ⟨w.heap.size, 0, none⟩) 4 4) (w.alloc (.cells #[.int .u8 84, .int .u8 82, .int .u8 77, .int .u8 1] 5 (4, 5))) := fun w => run_convert_bytes_const (P := Try.prog) w 37 5 _ 4 4 Try.underlying37 Try.underlying5
  go_enter Try.func9, Try.ntmps9
  go_upto_region 1 with fail
  generalize w.alloc (.cells zMo 26) = w1 at *
  obtain ⟨x0, x1, x2, xf⟩ := own3 o1
  go_wp2_with fail
  refine Calls.mono (body_empty w1) ?_
  rintro e w2 ⟨a, c, rfl, r2, n2, b2⟩
  replace hb := hb.trans (b2.mono hb.size)
  clear x0 x1 x2 xf b2 o1
  obtain ⟨gb, cap, cur, ea, -⟩ := r2.block (by omega)
  cases ea
  have hF1 := fixed_lit 3 3 rfl [3, 0, 0, 0] fix3 w2 (by omega)
  go_wp2_with fail
  refine Calls.mono hF1 ?_
  rintro e w3 ⟨g3, rfl, r3, b3⟩
  clear hF1
  replace hb := hb.trans (b3.mono hb.size)
  have r2b := r2.belowR b3
  have hcl : ∀ i, i < ([0, 0, 0] : List Nat).length → w3.cell? ⟨gb, 0 + i, none⟩ = some (.int .u8 ((([0, 0, 0] : List Nat).getD i 0 : Nat) : Int)) := by
    intro i hi
    rw [Nat.zero_add]
    have h3 : i = 0 ∨ i = 1 ∨ i = 2 := by simp at hi; omega
    rcases h3 with rfl | rfl | rfl <;> exact Rw.cells r2b _ _ rfl
  have hS := sum_lit gb c w3 4282505490 litS hcl
  clear hcl
  go_wp2_with fail
  refine Calls.mono hS ?_
  rintro e w4 ⟨rfl, rfl⟩
  clear hS
  have hF2 := fixed_lit 4282505490 4282505490 (by simp) [18, 217, 65, 255] fixS w3 (by omega)
  go_wp2_with fail
  refine Calls.mono hF2 ?_
  rintro e w5 ⟨g5, rfl, r5, b5⟩
  clear hF2
  replace hb := hb.trans (b5.mono hb.size)
  have l3 : Lies w5 (some ⟨g3, 0, none⟩) [3, 0, 0, 0] := (own_lies rfl r3 (by simp) (by simp)).below b5
  have l5 : Lies w5 (some ⟨g5, 0, none⟩) [18, 217, 65, 255] := own_lies rfl r5 (by simp) (by simp)
  have l2 : Lies w5 (some ⟨gb, 0, none⟩) [0, 0, 0] := (own_lies rfl r2b (by simp) (by simp)).below b5
  have B6 := new_below w5 (.cells #[.int .u8 84, .int .u8 82, .int .u8 77, .int .u8 1] 5 (4, 5))
  have B7 := B6.alloc B6.size (.cells #[.slice (some ⟨w5.heap.size, 0, none⟩) 4 4, .slice (some ⟨g3, 0, none⟩) 4 4, .slice (some ⟨gb, 0, none⟩) 3 c, .slice (some ⟨g5, 0, none⟩) 4 4] 37)
  have lm := (marked_lies w5).below (new_below _ (.cells #[.slice (some ⟨w5.heap.size, 0, none⟩) 4 4, .slice (some ⟨g3, 0, none⟩) 4 4, .slice (some ⟨gb, 0, none⟩) 3 c, .slice (some ⟨g5, 0, none⟩) 4 4] 37))
  have oS := Own.new (w5.alloc (.cells #[.int .u8 84, .int .u8 82, .int .u8 77, .int .u8 1] 5 (4, 5))) #[.slice (some ⟨w5.heap.size, 0, none⟩) 4 4, .slice (some ⟨g3, 0, none⟩) 4 4, .slice (some ⟨gb, 0, none⟩) 3 c, .slice (some ⟨g5, 0, none⟩) 4 4] 37
  rw [World.size_alloc] at oS
  have hCat := concat_as (w := (w5.alloc (.cells #[.int .u8 84, .int .u8 82, .int .u8 77, .int .u8 1] 5 (4, 5))).alloc (.cells #[.slice (some ⟨w5.heap.size, 0, none⟩) 4 4, .slice (some ⟨g3, 0, none⟩) 4 4, .slice (some ⟨gb, 0, none⟩) 3 c, .slice (some ⟨g5, 0, none⟩) 4 4] 37)) [(.slice (some ⟨w5.heap.size, 0, none⟩) 4 4, [84, 82, 77, 1]), (.slice (some ⟨g3, 0, none⟩) 4 4, [3, 0, 0, 0]), (.slice (some ⟨gb, 0, none⟩) 3 c, [0, 0, 0]), (.slice (some ⟨g5, 0, none⟩) 4 4, [18, 217, 65, 255])] 4 rfl (by omega) oS (by
    intro y hy
    simp at hy
    rcases hy with rfl | rfl | rfl | rfl
    · exact ⟨_, _, rfl, lm, fun e => by cases e⟩
    · exact ⟨_, _, rfl, l3.below B7, fun e => by cases e⟩
    · exact ⟨_, _, rfl, l2.below B7, fun e => by cases e⟩
    · exact ⟨_, _, rfl, l5.below B7, fun e => by cases e⟩) 15 rfl (by omega) (by omega)
  replace hb := hb.trans (B7.mono hb.size)
  clear l2 l3 l5 lm r2 r2b r3 r5 n2 b3 b5 B6
  go_wp2_with fail
  refine Calls.mono hCat ?_
  rintro e w8 ⟨aR, cR, rfl, rR, -, bR⟩
  have HR : Hid (Rw w8 5 1 (.slice aR 15 cR) 15 (nums eBytes) ∧ Below w.heap.size w w8) := ⟨rR, hb.trans (bR.mono hb.size)⟩
  clear hCat rR bR hb B7 oS
  go_wp2
  go_ret2
  exact ⟨aR, cR, rfl, HR.out⟩
theorem strE : strN eBytes = ⟨#[84, 82, 77, 1, 3, 0, 0, 0, 0, 0, 0, 18, 217, 65, 255]⟩ := by decide
set_option maxHeartbeats 2000000 in
set_option maxRecDepth 100000 in
theorem iworks_any (w : World) : Calls Try.prog 5 #[] w fun e w' => e = .returned (.bool true) ∧ Below w.heap.size w w' := by
  go_enter Try.func5, Try.ntmps5
  go_wp2_with fail
  refine Calls.mono (encode_empty w) ?_
  rintro e w1 ⟨a, c, rfl, r1, b1⟩
  have hc : (convert 37 9 (.slice a 15 c)).run Try.prog w1 = .ok (.string ⟨#[84, 82, 77, 1, 3, 0, 0, 0, 0, 0, 0, 18, 217, 65, 255]⟩) w1 := by
    obtain ⟨a', c', e, hl⟩ := row_lies (xs := eBytes) r1 (by decide) (by decide)
    cases e
    rw [← strE]
    exact conv_any hl rfl
  clear r1
  go_wp2
  go_ret
  exact ⟨rfl, b1⟩
end Go.Proofs.Ytghkanagiobggaa
