/-
  Where an instruction leads: the landed Targets, the document's.
-/
import Derived.Test.YtkmmnocooibljaaGreatDoorLz
import Derived.Laws.MakeOwn
namespace Go.Proofs.YtkmmnocooibljaaGreatDoor
open Go.RowKit
set_option linter.unusedVariables false

def iV (l : List Int) : List Value := l.map fun x => Value.int .i64 x
theorem iV_length (l : List Int) : (iV l).length = l.length := by simp [iV]
theorem iV_app (x y : List Int) : iV (x ++ y) = iV x ++ iV y := by simp [iV]
theorem okI : ElemOk 44 2 (.int .i64 0) 1 8 := ⟨Tryz.underlying44, by kernel_rfl, rfl, by omega, by omega⟩
/-- A new row of numbers. -/
structure LNew (w : World) (B : Nat) (v : Value) (xs : List Int) : Prop where
  row : Rw w 2 1 v xs.length (iV xs)
  new : ∀ b, v.ownBlock = some b → B ≤ b
theorem LNew.below {w w' : World} {B : Nat} {v : Value} {xs : List Int} (h : LNew w B v xs) (hb : Below w.heap.size w w') : LNew w' B v xs := ⟨h.row.belowR hb, h.new⟩
theorem LNew.mono {w : World} {B B' : Nat} {v : Value} {xs : List Int} (h : LNew w B v xs) (hb : B' ≤ B) : LNew w B' v xs := ⟨h.row, fun b e => Nat.le_trans hb (h.new b e)⟩
theorem LNew.nil (w : World) (B : Nat) : LNew w B (.slice none 0 0) [] := ⟨World.ownsRow_nil _ _ _ _, by simp [Value.ownBlock]⟩
theorem LNew.shape {w : World} {B : Nat} {v : Value} {xs : List Int} (h : LNew w B v xs) : ∃ a c, v = .slice a xs.length c := by
  obtain ⟨a, c, e, _⟩ := h.row.shape
  exact ⟨a, c, e⟩
def tgs (x : In) : List Int := if x.op = 46 ∨ x.op = 47 ∨ x.op = 48 then [x.a] else if x.op = 49 then x.arms.map Prod.snd ++ [x.b] else []
def TgR (w : World) (l : List Int) (e : Ending) (w' : World) : Prop := ∃ v, e = .returned v ∧ LNew w' w.heap.size v l ∧ Below w.heap.size w w'
theorem tg_one {w w1 : World} (hb : Below w.heap.size w w1) (x : Int) : TgR w [x] (.returned (.slice (some ⟨w1.heap.size, 0, none⟩) 1 1)) (w1.alloc (.cells #[.int .i64 x] 2)) := by
  have o := Own.new w1 #[.int .i64 x] 2
  refine ⟨_, rfl, ⟨?_, fun b e => ?_⟩, hb.alloc hb.size _⟩
  · exact World.ownsRow_lit w1 _ 1 (Nat.zero_le _) (by decide) rfl
  · have e2 : w1.heap.size = b := by simpa [Value.ownBlock] using e
    rw [← e2]; exact hb.size
/-- What was gathered of the arms. -/
def TgL (w1 : World) (ar : List (Int × Int)) (v i : Value) (wr : World) : Prop := (∃ j : Nat, j ≤ ar.length ∧ i = .int .i64 (j : Int) ∧ LNew wr w1.heap.size v ((ar.take j).map Prod.snd)) ∧ Below w1.heap.size w1 wr
def zIs (n : Nat) : Array Value := madeCells (Value.int .i64 0).cells (n * 1)
theorem infoI : (Tryz.prog.info? 2).map (fun i => (i.size, i.bytes, i.zero)) = some (1, 8, some (.int .i64 0)) := by kernel_rfl
theorem made_i64s (w : World) (n : Nat) (hn : n ≤ 1000000) : (Instr.makeSlice 44 (.int .i64 0) (.int .i64 ((n : Int) + 1))).run Tryz.prog w = .ok (.slice (some ⟨w.heap.size, 0, none⟩) 0 (n + 1)) (w.alloc (.cells (zIs (n + 1)) 2)) := by
  rw [show ((n : Int) + 1) = ((n + 1 : Nat) : Int) by omega]
  have hi := infoI
  cases hh : Tryz.prog.info? 2 with
  | none => rw [hh] at hi; cases hi
  | some i =>
    rw [hh] at hi
    obtain ⟨h1, h2, h3⟩ : i.size = 1 ∧ i.bytes = 8 ∧ i.zero = some (.int .i64 0) := by simpa using hi
    have h := run_makeSlice (P := Tryz.prog) (w := w) 44 2 i (.int .i64 0) Tryz.underlying44 hh h3 .i64 .i64 0 ((n + 1 : Nat) : Int) (by omega) (by omega) (by rw [h1]; omega) (by rw [h2]; omega) (by omega)
    rw [h1] at h
    exact h
theorem made_row (w : World) (c : Nat) (hc : c ≤ 1000001) : LNew (w.alloc (.cells (zIs c) 2)) w.heap.size (.slice (some ⟨w.heap.size, 0, none⟩) 0 c) [] := by
  refine ⟨World.ownsRow_made w _ c (Nat.zero_le _) (by unfold maxLen; omega) (size_madeCells _ _), fun b e => ?_⟩
  have e2 : w.heap.size = b := by simpa [Value.ownBlock] using e
  rw [← e2]; exact Nat.le_refl _
set_option maxHeartbeats 4000000 in
set_option maxRecDepth 100000 in
theorem lnTargets_as {w : World} {x : In} {ao : Option Addr} {cp : Nat} (hl : InLies w x ao) (n : Nat) (hn : n = x.arms.length) (hmx : n ≤ 1000000) :
    Calls Tryz.prog 28 #[insV x (.slice ao n cp)] w (TgR w (tgs x)) := by
  obtain ⟨op, XA, XB, ar⟩ := x
  have hA : ArmLies w ao ar := hl.arms
  have hop : op < 256 := hl.op
  simp only at hn
  unfold insV
  simp only
  have oX := Own.new w #[.int .u8 (op : Int), .int .i64 XA, .int .i64 XB, .slice ao n cp] 43
  have hb1 := new_below w (.cells #[.int .u8 (op : Int), .int .i64 XA, .int .i64 XB, .slice ao n cp] 43)
  have HA : Hid (ArmLies (w.alloc (.cells #[.int .u8 (op : Int), .int .i64 XA, .int .i64 XB, .slice ao n cp] 43)) ao ar) := hA.below hb1
  have HN : Hid (n = ar.length) := hn
  have HM : Hid (n ≤ 1000000) := hmx
  obtain ⟨R, hR⟩ : ∃ R, tgs ⟨op, XA, XB, ar⟩ = R := ⟨_, rfl⟩
  rw [hR]
  have HR : Hid (R = if op = 46 ∨ op = 47 ∨ op = 48 then [XA] else if op = 49 then ar.map Prod.snd ++ [XB] else []) := hR.symm
  clear hl hA hn hmx hR
  rcases (by omega : op = 46 ∨ op = 47 ∨ op = 48 ∨ op = 49 ∨ (op ≠ 46 ∧ op ≠ 47 ∧ op ≠ 48 ∧ op ≠ 49)) with rfl | rfl | rfl | rfl | ⟨q1, q2, q3, q4⟩
  iterate 3
    · obtain rfl : R = [XA] := HR.out
      go_enter Tryz.func28, Tryz.ntmps28
      go_upto_region 1 with fail
      generalize w.alloc _ = w1 at *
      obtain ⟨x0, x1, x2, x3, xf⟩ := own4 oX
      go_wp2
      go_ret
      exact tg_one hb1 XA
  · obtain rfl : R = ar.map Prod.snd ++ [XB] := HR.out
    clear HR
    have hmm : n ≤ 1000000 := HM.out
    go_enter Tryz.func28, Tryz.ntmps28
    go_upto_region 1 with fail
    generalize w.alloc _ = w1 at *
    obtain ⟨x0, x1, x2, x3, xf⟩ := own4 oX
    have HO : Hid (∀ W, Below w1.heap.size w1 W → Own W w.heap.size #[.int .u8 49, .int .i64 XA, .int .i64 XB, .slice ao n cp] 43) := fun W q => Own.below oX q
    have MK := made_i64s w1 n hmm
    have REL : Hid (TgL w1 ar (.slice (some ⟨w1.heap.size, 0, none⟩) 0 (n + 1)) (.int .i64 0) (w1.alloc (.cells (zIs (n + 1)) 2))) := ⟨⟨0, Nat.zero_le _, rfl, made_row w1 (n + 1) (by omega)⟩, new_below w1 _⟩
    go_upto_region 8 with fail
    clear x0 x1 x2 x3 xf MK
    generalize w1.alloc (.cells (zIs (n + 1)) 2) = w2 at *
    obtain ⟨x0, x1, x2, x3, xf⟩ := own4 (HO.out w2 REL.out.2)
    go_wp2_with fail
    go_loopw [3, 25] (fun v i wr => TgL w1 ar v i wr) (fun _ i _ => n - (intOf i).toNat)
    case atStart => exact REL.out
    case round =>
      clear REL x0 x1 x2 x3 xf
      obtain ⟨⟨j, hj, rfl, hi⟩, hb⟩ := hrel
      by_cases hlt : j < n
      · have hka : j < ar.length := by rw [← HN.out]; exact hlt
        rcases HA.out.lies with h0 | ⟨bb, off, rfl, hbl, hc⟩
        · rw [h0] at hka; cases hka
        have c1 := hc j hka
        have HT : Hid ((ar.take (j + 1)).map Prod.snd = (ar.take j).map Prod.snd ++ [(ar.getD j (0, 0)).2]) := by
          unfold Hid
          rw [List.take_succ_eq_append_getElem hka, List.map_append]
          congr 2
          simp [List.getD, hka]
        have hlen : ((ar.take j).map Prod.snd).length = j := by rw [List.length_map, List.length_take]; omega
        generalize ar.getD j (0, 0) = V at *
        obtain ⟨vv, ty⟩ := V
        simp only at c1 HT
        have c2 : wr.cell? ⟨bb, off + j * 2, none⟩ = some (.int .i64 vv) := (hb.cell (p := ⟨bb, _, none⟩) hbl).trans c1.1
        have c3 : wr.cell? ⟨bb, off + j * 2 + 1, none⟩ = some (.int .i64 ty) := (hb.cell (p := ⟨bb, _, none⟩) hbl).trans c1.2
        have oA := Own.new wr #[.int .i64 vv, .int .i64 ty] 51
        have bA := new_below wr (.cells #[.int .i64 vv, .int .i64 ty] 51)
        replace hi := hi.below bA
        replace hb := hb.trans (bA.mono hb.size)
        have hlt2 : (j : Int) < (n : Int) := by omega
        have hj0 : (0 : Int) ≤ (j : Int) := by omega
        clear c1 hc hbl bA
        go_upto_region 11 with fail
        generalize wr.alloc (.cells #[.int .i64 vv, .int .i64 ty] 51) = wq at *
        generalize wr.heap.size = ga at *
        have a0 := oA.cell 1
        have af := oA.froz
        have oI := Own.new wq #[.int .i64 ty] 2
        have bI := new_below wq (.cells #[.int .i64 ty] 2)
        have hiI := hi.below bI
        have hbI := hb.trans (bI.mono hb.size)
        have rowI := hiI.row
        rw [hlen] at rowI
        have hnew := hiI.new
        obtain ⟨a1, cp1, rfl⟩ := hi.shape
        rw [hlen] at rowI hnew ⊢
        have HSB : Hid (w1.heap.size ≤ wq.heap.size) := hb.size
        have HLL : Hid (j + 1 ≤ ar.length ∧ (j : Int) < (n : Int)) := ⟨hka, by omega⟩
        have HK : Hid (j ≤ 1000000) := by have := HM.out; unfold Hid; omega
        clear hi hb bI hiI hlen hka hj c2 c3 oA
        go_wp2_with (refine wpList_app1 okI (by rfl) (.tmp 29) (.tmp 32) (by rfl) _ j (iV ((ar.take j).map Prod.snd)) (by rfl) rowI wq.heap.size [.int .i64 ty] (by rfl) oI rfl (by simp [Value.oneCell']) (by have := HK.out; omega) ?_; intro ao2 cap2 wz q1 q2 q3)
        have hz : LNew wz w1.heap.size (.slice ao2 (j + 1) cap2) ((ar.take (j + 1)).map Prod.snd) := by
          refine ⟨?_, fun b q => ?_⟩
          · have e : ((ar.take (j + 1)).map Prod.snd).length = j + 1 := by have := HLL.out.1; rw [List.length_map, List.length_take]; omega
            rw [e, HT.out, iV_app]
            exact q1
          · rcases q3 with q3 | q3
            · exact hnew b (by rw [← q3]; exact q)
            · have e5 : wq.heap.size + 1 = b := by rw [q3] at q; simpa using q
              have := HSB.out; omega
        have hb' := hbI.grown q2 hbI.size (fun k e => hnew k e)
        have hkk : j ≤ 1000000 := HK.out
        have hw : wrap64 ((j : Int) + 1) = (j : Int) + 1 := by unfold wrap64; omega
        go_roundw
        case rel => exact ⟨_, _, _, _, _, _, _, _, _, _, _, _, ⟨⟨j + 1, HLL.out.1, by rfl, hz⟩, hb'⟩, rfl⟩
        case measure => simp [intOf]; omega
      · have hje : j = n := by have := HN.out; omega
        subst hje
        have hjn : j = ar.length := HN.out
        rw [hjn, List.take_of_length_le (Nat.le_refl _)] at hi
        have hml : (ar.map Prod.snd).length = j := by rw [List.length_map]; exact hjn.symm
        have oXr := HO.out wr hb
        have oI := Own.new wr #[.int .i64 XB] 2
        have bI := new_below wr (.cells #[.int .i64 XB] 2)
        have hiI := hi.below bI
        have hbI := hb.trans (bI.mono hb.size)
        have rowI := hiI.row
        rw [hml] at rowI
        have hnew := hiI.new
        obtain ⟨a1, cp1, rfl⟩ := hi.shape
        rw [hml] at rowI hnew ⊢
        have HSB : Hid (w1.heap.size ≤ wr.heap.size ∧ w.heap.size ≤ w1.heap.size) := ⟨hb.size, hb1.size⟩
        have HK : Hid (j ≤ 1000000) := HM.out
        have HB1 : Hid (Below w.heap.size w w1) := hb1
        obtain ⟨x0, x1, x2, x3, xf⟩ := own4 oXr
        clear hi hb bI hiI hb1 hjn HA
        go_wp2_with (refine wpList_app1 okI (by rfl) (.tmp 35) (.tmp 38) (by rfl) _ j (iV (ar.map Prod.snd)) (by rfl) rowI wr.heap.size [.int .i64 XB] (by rfl) oI rfl (by simp [Value.oneCell']) (by have := HK.out; omega) ?_; intro ao2 cap2 wz q1 q2 q3)
        go_ret
        refine ⟨.slice ao2 (j + 1) cap2, rfl, ⟨?_, fun b q => ?_⟩, HB1.out.trans ((hbI.grown q2 hbI.size (fun k e => hnew k e)).mono HB1.out.size)⟩
        · have e : (ar.map Prod.snd ++ [XB]).length = j + 1 := by rw [List.length_append, hml]; rfl
          rw [e, iV_app]
          exact q1
        · rcases q3 with q3 | q3
          · exact Nat.le_trans HSB.out.2 (hnew b (by rw [← q3]; exact q))
          · have e5 : wr.heap.size + 1 = b := by rw [q3] at q; simpa using q
            have := HSB.out; omega
  · obtain rfl : R = [] := by rw [HR.out, if_neg (by omega), if_neg q4]
    have e1 : ((op : Int) == 46) = false := by rw [beq_eq_false_iff_ne]; omega
    have e2 : ((op : Int) == 47) = false := by rw [beq_eq_false_iff_ne]; omega
    have e3 : ((op : Int) == 48) = false := by rw [beq_eq_false_iff_ne]; omega
    have e4 : ((op : Int) == 49) = false := by rw [beq_eq_false_iff_ne]; omega
    have f1 : ¬ (op : Int) = 46 := by omega
    have f2 : ¬ (op : Int) = 47 := by omega
    have f3 : ¬ (op : Int) = 48 := by omega
    have f4 : ¬ (op : Int) = 49 := by omega
    clear HR HA HN HM q1 q2 q3 q4 hop
    generalize (op : Int) = N at *
    go_enter Tryz.func28, Tryz.ntmps28
    go_upto_region 1 with fail
    generalize w.alloc _ = w1 at *
    obtain ⟨x0, x1, x2, x3, xf⟩ := own4 oX
    go_wp2
    go_ret
    exact ⟨_, rfl, LNew.nil _ _, hb1⟩
end Go.Proofs.YtkmmnocooibljaaGreatDoor
