/-
  CONTRACT of what goes through a block.
-/
import Derived.Test.YtepadfcjjcionaaGreatDoorWi
namespace Go.Proofs.YtepadfcjjcionaaGreatDoor
open Go.RowKit
set_option linter.unusedVariables false

/-- How many statements a part tells of. -/
def OutLe (N : Nat) : Prop := ∀ (t : Tm) (c : Bool), Enough N t → (walkF N t c).y + (walkF N t c).z ≤ 3 * wt t
theorem cntL_drop : ∀ (ks : List Tm) (j : Nat) (u : Tm), ks[j]? = some u → cnt.cntL (ks.drop j) = cnt u + cnt.cntL (ks.drop (j + 1)) := by
  intro ks
  induction ks with
  | nil => intro j u h; simp at h
  | cons t ks ih =>
    intro j u h
    cases j with
    | zero => cases h; simp [cnt.cntL]
    | succ j => simpa using ih j u (by simpa using h)
theorem blk_drop (f : Tm → Bool → Out) : ∀ (ks : List Tm) (j : Nat) (u : Tm) (c : Bool), ks[j]? = some u → blkF f (ks.drop j) c = seqO (f u c) (blkF f (ks.drop (j + 1)) (f u c).e) := by
  intro ks
  induction ks with
  | nil => intro j u c h; simp at h
  | cons t ks ih =>
    intro j u c h
    cases j with
    | zero => cases h; simp [blkF]
    | succ j => simpa using ih j u c (by simpa using h)

structure BlkRel (N : Nat) (w : World) (R M B : Nat) (A : Ways) (y z k : Nat) (cells : Array Value) (ks : List Tm) (c : Bool) (m g : Nat) (cv iv : Value) (wr : World) : Prop where
  ex : ∃ (j : Nat) (c' : Bool) (pw : Ways) (py pz pk : Nat), j + g = m ∧ cv = .bool c' ∧ iv = .int .i64 (j : Int) ∧ TourAt wr R M B (orW A pw) (y + py) (z + pz) (k + pk) ∧
    py + pz + 3 * cnt.cntL (ks.drop j) ≤ 3 * cnt.cntL ks ∧ pk + 8 * cnt.cntL (ks.drop j) ≤ 8 * cnt.cntL ks ∧
    (blkF (walkF N) ks c).e = (blkF (walkF N) (ks.drop j) c').e ∧ (blkF (walkF N) ks c).w = orW pw (blkF (walkF N) (ks.drop j) c').w ∧ (blkF (walkF N) ks c).y = py + (blkF (walkF N) (ks.drop j) c').y ∧ (blkF (walkF N) ks c).z = pz + (blkF (walkF N) (ks.drop j) c').z
  own : Own wr w.heap.size cells 24
  kt : Kt R M w wr

set_option maxRecDepth 100000 in
set_option maxHeartbeats 4000000 in
theorem block_as {N : Nat} (HS : Hid (StmtOk N)) (HL : Hid (OutLe N)) {w0 w : World} {R M B : Nat} {A : Ways} {y z k : Nat} {op ty n : Int} {tx : ByteArray} {ks : List Tm} {kv : Value} {c : Bool}
    (hE : ∀ u ∈ ks, Enough N u) (hk : KidsR w0 kv ks) (hb : Below w0.heap.size w0 w) (hR : w0.heap.size ≤ R) (hM : w0.heap.size ≤ M) (hB : w0.heap.size ≤ B) (h : TourAt w R M B A y z k)
    (hs : y + z + k + 100 * cnt.cntL ks + 1000 * N ≤ 1000000000) :
    Calls Tryz.prog 18 #[.pointer (some ⟨R, 0, none⟩), .agg #[.int .u8 op, .int .i64 ty, .int .i64 n, .string tx, kv], .bool c] w fun en w' => en = .returned (.bool (blkF (walkF N) ks c).e) ∧
      TourAt w' R M B (orW A (blkF (walkF N) ks c).w) (y + (blkF (walkF N) ks c).y) (z + (blkF (walkF N) ks c).z) (k + 8 * cnt.cntL ks) ∧ Kt R M w w' := by
  obtain ⟨ao, cap, rfl, hl1, hl2, _⟩ := id hk
  obtain ⟨m, hm⟩ : ∃ m, ks.length = m := ⟨_, rfl⟩
  have HM : Hid (ks.length = m) := hm
  have HK : Hid (KidsR w0 (.slice ao m cap) ks) := by rw [← hm]; exact hk
  rw [hm] at hl1 ⊢
  have hRl := h.1.lt
  have hMl := h.2.2.lt
  have HE : Hid (∀ u ∈ ks, Enough N u) := hE
  have HB : Hid (Below w0.heap.size w0 w) := hb
  have HSS : Hid (y + z + k + 100 * cnt.cntL ks + 1000 * N ≤ 1000000000) := hs
  have R0 : BlkRel N w R M B A y z k #[.int .u8 op, .int .i64 ty, .int .i64 n, .string tx, .slice ao m cap] ks c m m (.bool c) (.int .i64 0) (w.alloc (.cells #[.int .u8 op, .int .i64 ty, .int .i64 n, .string tx, .slice ao m cap] 24)) := by
    refine ⟨⟨0, c, noW, 0, 0, 0, by omega, rfl, rfl, by rw [orW_no]; exact h.alloc _, by simp, by simp, rfl, by rw [no_orW]; rfl, by simp, by simp⟩, Own.new w _ _, (Kt.refl R M w).alloc _⟩
  clear hk hm h hE hb hs
  go_enter Tryz.func18, Tryz.ntmps18
  go_wp2_with fail
  go_loopg [2, 12] m (fun g cv iv wr => BlkRel N w R M B A y z k #[.int .u8 op, .int .i64 ty, .int .i64 n, .string tx, .slice ao m cap] ks c m g cv iv wr)
  case atStart => exact R0
  case round =>
    clear R0
    obtain ⟨⟨j, c', pw, py, pz, pk, hj, rfl, rfl, hT, hc1, hc2, he, hw, hy, hz⟩, o0, hK⟩ := hrel
    by_cases hlt : j < m
    · have i1 : (j : Int) < (m : Int) := by omega
      obtain ⟨u, hu⟩ : ∃ u, ks[j]? = some u := ⟨ks[j]'(by rw [HM.out]; exact hlt), List.getElem?_eq_getElem _⟩
      obtain ⟨g2, q2, aj, cj, rfl, hg2, hin, hW⟩ := kids_cells HK.out j u hu
      have hbr : Below w0.heap.size w0 wr := kt_below HB.out hK hR hM
      obtain ⟨f0, f1, f2, f3, f4, _⟩ := hW wr (fun k hk => hbr.block k hk)
      obtain ⟨_, _, _, _, _, hku⟩ := hW w0 (fun _ _ => rfl)
      have hg2r : g2 < wr.heap.size := Nat.lt_of_lt_of_le hg2 hbr.size
      have hcu := cnt_get hu
      have hwu := wt_le u
      have hcd := cntL_drop ks j u hu
      have hbd := blk_drop (walkF N) ks j u c' hu
      obtain ⟨uo, ut, un, ux, us⟩ := u
      have hEu : Enough N ⟨uo, ut, un, ux, us⟩ := HE.out _ (List.mem_of_getElem? hu)
      have hou := HL.out ⟨uo, ut, un, ux, us⟩ c' hEu
      have hs' := HSS.out
      have hbu := bud_le ⟨uo, ut, un, ux, us⟩
      have CL := HS.out w0 (wr.alloc (.cells #[.int .u8 uo, .int .i64 ut, .int .i64 un, .string ux, .slice aj us.length cj] 24)) R M B (orW A pw) (y + py) (z + pz) (k + pk) uo ut un ux us (.slice aj us.length cj) c' hEu hin hku (kt_below HB.out (hK.alloc _) hR hM) hR hM hB (hT.alloc _) (by omega)
      generalize ho : walkF N ⟨uo, ut, un, ux, us⟩ c' = o at *
      have HO : Hid ((blkF (walkF N) ks c).e = (blkF (walkF N) (ks.drop (j + 1)) o.e).e ∧ (blkF (walkF N) ks c).w = orW (orW pw o.w) (blkF (walkF N) (ks.drop (j + 1)) o.e).w ∧ (blkF (walkF N) ks c).y = (py + o.y) + (blkF (walkF N) (ks.drop (j + 1)) o.e).y ∧ (blkF (walkF N) ks c).z = (pz + o.z) + (blkF (walkF N) (ks.drop (j + 1)) o.e).z) := by
        rw [hbd] at he hw hy hz
        refine ⟨he, ?_, ?_, ?_⟩
        · rw [hw, orW_assoc]; rfl
        · rw [hy]; simp [seqO]; omega
        · rw [hz]; simp [seqO]; omega
      have HN : Hid (py + o.y + (pz + o.z) + 3 * cnt.cntL (ks.drop (j + 1)) ≤ 3 * cnt.cntL ks ∧ pk + bud ⟨uo, ut, un, ux, us⟩ + 8 * cnt.cntL (ks.drop (j + 1)) ≤ 8 * cnt.cntL ks ∧ 1 ≤ gk ∧ j + 1 + (gk - 1) = m) := by
        unfold Hid; omega
      have oA := o0.alloc (.cells #[.int .u8 uo, .int .i64 ut, .int .i64 un, .string ux, .slice aj us.length cj] 24)
      have HKA : Hid (Kt R M w (wr.alloc (.cells #[.int .u8 uo, .int .i64 ut, .int .i64 un, .string ux, .slice aj us.length cj] 24)) ∧ Own (wr.alloc (.cells #[.int .u8 uo, .int .i64 ut, .int .i64 un, .string ux, .slice aj us.length cj] 24)) w.heap.size #[.int .u8 op, .int .i64 ty, .int .i64 n, .string tx, .slice (some ⟨g2, q2, none⟩) m cap] 24) := ⟨hK.alloc _, oA⟩
      clear he hw hy hz hbd hc1 hc2 hcd hcu hwu hou hs' hbu hEu ho hW hku hT hu oA hin HK
      simp only at f0 f1 f2 f3 f4
      go_wp2_with fail
      refine CL.mono ?_
      rintro en w1 ⟨rfl, hT1, hK1⟩
      clear CL
      go_wp2
      go_roundg (gk - 1)
      case rel =>
        refine ⟨⟨j + 1, o.e, orW pw o.w, py + o.y, pz + o.z, pk + bud ⟨uo, ut, un, ux, us⟩, HN.out.2.2.2, rfl, by go_num, ?_, HN.out.1, HN.out.2.1, HO.out.1, HO.out.2.1, HO.out.2.2.1, HO.out.2.2.2⟩, HKA.out.2.kt hK1 (by omega) (by omega), HKA.out.1.trans hK1⟩
        rw [← orW_assoc, ← Nat.add_assoc, ← Nat.add_assoc, ← Nat.add_assoc]
        exact hT1
      case measure => have := HN.out.2.2.1; omega
    · have i1 : ¬ ((j : Int) < (m : Int)) := by omega
      have hd : ks.drop j = [] := List.drop_eq_nil_of_le (by rw [HM.out]; omega)
      rw [hd] at he hw hy hz hc2
      simp only [blkF, orW_no, Nat.add_zero, cnt.cntL, Nat.mul_zero] at he hw hy hz hc2
      have HF : Hid (TourAt wr R M B (orW A (blkF (walkF N) ks c).w) (y + (blkF (walkF N) ks c).y) (z + (blkF (walkF N) ks c).z) (k + 8 * cnt.cntL ks) ∧ Kt R M w wr ∧ (blkF (walkF N) ks c).e = c') := by
        refine ⟨?_, hK, he⟩
        rw [hw, hy, hz]
        exact ⟨hT.1, hT.2.1, hT.2.2.mono (by omega)⟩
      clear he hw hy hz hc2 hc1 hT
      go_wp2
      go_ret
      exact ⟨by rw [HF.out.2.2]; rfl, HF.out.1, HF.out.2.1⟩
end Go.Proofs.YtepadfcjjcionaaGreatDoor
