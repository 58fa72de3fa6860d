/-
  CONTRACTS of fieldTypes and arraysOf.
-/
import Derived.Test.YtibcakmodkbliaaTk3
namespace Go.Proofs.Ytibcakmodkbliaa
open Go.RowKit
set_option linter.unusedVariables false

theorem flCells {w : World} {a : Option Addr} {fs : List Fl} (h : RowAt w a 2 fs.length (flF fs)) {i : Nat} (hi : i < fs.length) (t : Fl) (ht : fs.getD i zFl = t) : ∃ b off, a = some ⟨b, off, none⟩ ∧ w.cell? ⟨b, off + i * 2, none⟩ = some (.string t.name) ∧ w.cell? ⟨b, off + i * 2 + 1, none⟩ = some (.int .i64 t.typ) := by
  obtain ⟨b, off, e, hc⟩ := h.at hi
  subst ht
  exact ⟨b, off, e, hc 0 (by omega), hc 1 (by omega)⟩
theorem intV_app (xs : List Int) (x : Int) : intV (xs ++ [x]) = intV xs ++ [.int .i64 x] := by simp [intV]
structure FtRel (w : World) (g : Nat) (fs : List Fl) (t : TyP) (v i : Value) (wr : World) : Prop where
  ex : ∃ k : Nat, k ≤ fs.length ∧ i = .int .i64 (k : Int) ∧ IntNew wr w.heap.size v ((fs.take k).map Fl.typ)
  own : Own wr g (tyA t) 36
  bel : Below w.heap.size w wr
set_option maxHeartbeats 2000000 in
set_option maxRecDepth 100000 in
theorem fieldTypes_as {w : World} {t : TyP} (ht : TyIn w t) (hs : t.t.fields.length ≤ 1000000) :
    Calls Try.prog 84 #[.agg (tyA t)] w fun e w' => ∃ v, e = .returned v ∧ IntNew w' w.heap.size v (t.t.fields.map Fl.typ) ∧ Below w.heap.size w w' := by
  have o0 := Own.new w (tyA t) 36
  have b0 := new_below w (.cells (tyA t) 36)
  have HR : Hid (∀ wr, Below w.heap.size w wr → RowAt wr t.fa 2 t.t.fields.length (flF t.t.fields)) := fun wr h => ht.row.below h
  have HS : Hid (t.t.fields.length ≤ 1000000) := hs
  obtain ⟨n, hn⟩ : ∃ n, n = t.t.fields.length := ⟨_, rfl⟩
  have HN : Hid (n = t.t.fields.length) := hn
  have REL : Hid (FtRel w w.heap.size t.t.fields t (.slice none 0 0) (.int .i64 0) (w.alloc (.cells (tyA t) 36))) := ⟨⟨0, Nat.zero_le _, rfl, IntNew.nil _ _⟩, o0, b0⟩
  have nm : ∀ x, x = t.t.fields.length → n = x := fun x h => by omega
  unfold tyA at o0 b0 REL
  rw [← hn] at o0 b0 REL
  clear ht hs nm
  unfold tyA
  rw [← hn]
  clear hn
  go_enter Try.func84, Try.ntmps84
  go_upto_region 1 with fail
  generalize w.alloc _ = w1 at *
  obtain ⟨x0, x1, x2, x3, x4, xf⟩ := own5' o0
  go_wp2_with fail
  clear x0 x1 x2 x3 x4 xf o0 b0
  go_loopw [3, 9] (fun v i wr => FtRel w w.heap.size t.t.fields t v i wr) (fun _ i _ => n - (intOf i).toNat)
  case atStart => exact REL.out
  case round =>
    clear REL
    obtain ⟨⟨k, hk, rfl, hi⟩, ho, hb⟩ := hrel
    by_cases hlt : k < n
    · have hka : k < t.t.fields.length := by rw [← HN.out]; exact hlt
      obtain ⟨f, hf⟩ : ∃ f, t.t.fields.getD k zFl = f := ⟨_, rfl⟩
      obtain ⟨b, off, hfa, c0, c1⟩ := flCells (HR.out wr hb) hka f hf
      have HT : Hid ((t.t.fields.take (k + 1)).map Fl.typ = (t.t.fields.take k).map Fl.typ ++ [f.typ]) := by
        unfold Hid
        rw [List.take_succ_eq_append_getElem hka, List.map_append]
        congr 2
        rw [← hf]; simp [List.getD, hka]
      have hlen : ((t.t.fields.take k).map Fl.typ).length = k := by rw [List.length_map, List.length_take]; omega
      have HK : Hid (k ≤ 1000000) := by have := HS.out; unfold Hid; omega
      obtain ⟨nm, ty⟩ := f
      simp only at c0 c1 HT
      have oF := Own.new wr #[.string nm, .int .i64 ty] 38
      have bF := new_below wr (.cells #[.string nm, .int .i64 ty] 38)
      have hiF := hi.below bF
      have hoF := ho.below bF
      have hbF := hb.trans (bF.mono hb.size)
      rw [hfa]
      clear hf hi ho hb bF
      go_upto_region 5 with fail
      clear c0 c1
      generalize wr.alloc (.cells #[.string nm, .int .i64 ty] 38) = w5 at *
      obtain ⟨y0, y1, yf⟩ := own2 oF
      have oI := Own.new w5 #[.int .i64 ty] 3
      have bI := new_below w5 (.cells #[.int .i64 ty] 3)
      have hiI := hiF.below bI
      have hoI := hoF.below bI
      have hbI := hbF.trans (bI.mono hbF.size)
      have rowI := hiI.row
      rw [hlen] at rowI
      have hnew := hiI.new
      have hsI : w.heap.size ≤ w5.heap.size := hbF.size
      obtain ⟨a1, cp1, rfl⟩ := hiI.shape
      rw [hlen] at rowI hnew ⊢
      clear hiF hoF hbF bI hiI oF
      go_wp2_with (refine wpList_app1 okN (by rfl) (.tmp 13) (.tmp 16) (by rfl) _ k (intV ((t.t.fields.take k).map Fl.typ)) (by rfl) rowI w5.heap.size [.int .i64 ty] (by rfl) oI rfl (by simp [Value.oneCell']) (by have := HK.out; omega) ?_; intro ao2 cap2 wz q1 q2 q3)
      have hz : IntNew wz w.heap.size (.slice ao2 (k + 1) cap2) ((t.t.fields.take (k + 1)).map Fl.typ) := by
        refine ⟨?_, fun b q => ?_⟩
        · have e : ((t.t.fields.take (k + 1)).map Fl.typ).length = k + 1 := by rw [List.length_map, List.length_take]; omega
          rw [e, HT.out, intV_app]
          exact q1
        · rcases q3 with q3 | q3
          · exact hnew b (by rw [← q3]; exact q)
          · rw [q3] at q; cases q; exact Nat.le_trans hsI (by simp)
      have ho' := hoI.grown q2 (fun e => rowI.ne hoI (by decide) e.symm)
      have hb' := hbI.grown q2 hbI.size (fun k e => hnew k e)
      have hkk : k ≤ 1000000 := HK.out
      have hw : wrap64 ((k : Int) + 1) = (k : Int) + 1 := by unfold wrap64; omega
      go_roundw
      case rel => exact ⟨⟨k + 1, hka, by rw [hw]; rfl, hz⟩, ho', hb'⟩
      case measure => rw [hw]; simp [intOf]; omega
    · have hkn : k = t.t.fields.length := by have := HN.out; omega
      rw [hkn, List.take_of_length_le (Nat.le_refl _)] at hi
      obtain ⟨a1, cp1, rfl⟩ := hi.shape
      go_wp2
      go_ret
      exact ⟨_, rfl, hi, hb⟩
set_option maxHeartbeats 1000000 in
theorem arraysOf39 (w : World) : Calls Try.prog 85 #[.int .u8 39] w fun e w' => ∃ g, e = .returned (.slice (some ⟨g, 0, none⟩) 1 1) ∧ KsAt w' g [7] ∧ Below w.heap.size w w' := by
  have o := Own.new w #[.int .u8 7] 5
  have b := new_below w (.cells #[.int .u8 7] 5)
  go_enter Try.func85, Try.ntmps85
  go_wp2
  go_ret
  refine ⟨_, rfl, ⟨by simp, by simp, fun i hi => ?_⟩, b⟩
  rw [o.cell]
  simp only [List.length_cons, List.length_nil] at hi
  rcases (show i = 0 ∨ i = 1 by omega) with rfl | rfl <;> first | rfl | omega
set_option maxHeartbeats 1000000 in
theorem arraysOf40 (w : World) : Calls Try.prog 85 #[.int .u8 40] w fun e w' => ∃ g, e = .returned (.slice (some ⟨g, 0, none⟩) 1 1) ∧ KsAt w' g [8] ∧ Below w.heap.size w w' := by
  have o := Own.new w #[.int .u8 8] 5
  have b := new_below w (.cells #[.int .u8 8] 5)
  go_enter Try.func85, Try.ntmps85
  go_wp2
  go_ret
  refine ⟨_, rfl, ⟨by simp, by simp, fun i hi => ?_⟩, b⟩
  rw [o.cell]
  simp only [List.length_cons, List.length_nil] at hi
  rcases (show i = 0 ∨ i = 1 by omega) with rfl | rfl <;> first | rfl | omega
set_option maxHeartbeats 1000000 in
theorem arraysOf41 (w : World) : Calls Try.prog 85 #[.int .u8 41] w fun e w' => ∃ g, e = .returned (.slice (some ⟨g, 0, none⟩) 2 2) ∧ KsAt w' g [7, 8] ∧ Below w.heap.size w w' := by
  have o := Own.new w #[.int .u8 7, .int .u8 8] 5
  have b := new_below w (.cells #[.int .u8 7, .int .u8 8] 5)
  go_enter Try.func85, Try.ntmps85
  go_wp2
  go_ret
  refine ⟨_, rfl, ⟨by simp, by simp, fun i hi => ?_⟩, b⟩
  rw [o.cell]
  simp only [List.length_cons, List.length_nil] at hi
  rcases (show i = 0 ∨ i = 1 by omega) with rfl | rfl <;> first | rfl | omega
set_option maxHeartbeats 1000000 in
theorem arraysOf42 (w : World) : Calls Try.prog 85 #[.int .u8 42] w fun e w' => ∃ g, e = .returned (.slice (some ⟨g, 0, none⟩) 2 2) ∧ KsAt w' g [7, 8] ∧ Below w.heap.size w w' := by
  have o := Own.new w #[.int .u8 7, .int .u8 8] 5
  have b := new_below w (.cells #[.int .u8 7, .int .u8 8] 5)
  go_enter Try.func85, Try.ntmps85
  go_wp2
  go_ret
  refine ⟨_, rfl, ⟨by simp, by simp, fun i hi => ?_⟩, b⟩
  rw [o.cell]
  simp only [List.length_cons, List.length_nil] at hi
  rcases (show i = 0 ∨ i = 1 by omega) with rfl | rfl <;> first | rfl | omega
set_option maxHeartbeats 1000000 in
theorem arraysOf43 (w : World) : Calls Try.prog 85 #[.int .u8 43] w fun e w' => ∃ g, e = .returned (.slice (some ⟨g, 0, none⟩) 2 2) ∧ KsAt w' g [7, 8] ∧ Below w.heap.size w w' := by
  have o := Own.new w #[.int .u8 7, .int .u8 8] 5
  have b := new_below w (.cells #[.int .u8 7, .int .u8 8] 5)
  go_enter Try.func85, Try.ntmps85
  go_wp2
  go_ret
  refine ⟨_, rfl, ⟨by simp, by simp, fun i hi => ?_⟩, b⟩
  rw [o.cell]
  simp only [List.length_cons, List.length_nil] at hi
  rcases (show i = 0 ∨ i = 1 by omega) with rfl | rfl <;> first | rfl | omega
set_option maxHeartbeats 1000000 in
theorem arraysOf44 (w : World) : Calls Try.prog 85 #[.int .u8 44] w fun e w' => ∃ g, e = .returned (.slice (some ⟨g, 0, none⟩) 1 1) ∧ KsAt w' g [8] ∧ Below w.heap.size w w' := by
  have o := Own.new w #[.int .u8 8] 5
  have b := new_below w (.cells #[.int .u8 8] 5)
  go_enter Try.func85, Try.ntmps85
  go_wp2
  go_ret
  refine ⟨_, rfl, ⟨by simp, by simp, fun i hi => ?_⟩, b⟩
  rw [o.cell]
  simp only [List.length_cons, List.length_nil] at hi
  rcases (show i = 0 ∨ i = 1 by omega) with rfl | rfl <;> first | rfl | omega
set_option maxHeartbeats 1000000 in
theorem arraysOf45 (w : World) : Calls Try.prog 85 #[.int .u8 45] w fun e w' => ∃ g, e = .returned (.slice (some ⟨g, 0, none⟩) 1 1) ∧ KsAt w' g [8] ∧ Below w.heap.size w w' := by
  have o := Own.new w #[.int .u8 8] 5
  have b := new_below w (.cells #[.int .u8 8] 5)
  go_enter Try.func85, Try.ntmps85
  go_wp2
  go_ret
  refine ⟨_, rfl, ⟨by simp, by simp, fun i hi => ?_⟩, b⟩
  rw [o.cell]
  simp only [List.length_cons, List.length_nil] at hi
  rcases (show i = 0 ∨ i = 1 by omega) with rfl | rfl <;> first | rfl | omega
end Go.Proofs.Ytibcakmodkbliaa
