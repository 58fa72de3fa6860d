/-
  THE WALK of LexLies where the blank put in is number 3.
-/
import Derived.Test.YteeoakbafbnkhaaDoorLawWalks
import Derived.Deep.QuietTactic
import Derived.BigQuiet
import Derived.Deep.RegionWith
import Derived.Deep.RegionHeld3
import Derived.Deep.DeepCutAuto
import Derived.Deep.Cut
namespace Go.Proofs.YteeoakbafbnkhaaDoor
open Go.RowKit
set_option linter.unusedVariables false

set_option maxRecDepth 100000 in
set_option maxHeartbeats 4000000 in
theorem lexLies_ok3 (s : ByteArray) (cut kind : Int) (hcut : -9223372036854775808 ≤ cut ∧ cut ≤ 9223372036854775807) (hkind : -9223372036854775808 ≤ kind ∧ kind ≤ 9223372036854775807) (hbig : ¬ 8192 < s.size) (ts : List (Nat × List Nat × Nat × Nat × Nat)) (HT : Hid (tokens (bytesN s) = .ok ts)) (n : Nat) (hn : Hid (ts.length = n)) (hn2 : n ≤ 8192) (c7 K : Nat) (hc7 : cut % 7 = (c7 : Int)) (h7 : c7 < 7) (hK : cut % ((n : Int) + 1) = (K : Int)) (hKn : K ≤ n) (hJ : kind % 4 = 3) (w : World) (HL : Hid (Laid w)) : Calls Tryd.prog 13 #[.string s, .int .i64 cut, .int .i64 kind] w fun e w' => e = .returned (.bool true) ∧ Below w.heap.size w w' := by
  have HZ := hn2
  go_enter Tryd.func13, Tryd.ntmps13
  go_wp2_with fail
  refine (tok_ok (by omega) ts HT.out HL.out).mono ?_
  rintro e w1 ⟨va, rfl, ownA, bel1⟩
  rw [hn.out] at ownA
  obtain ⟨aa, ca, rfl⟩ := own_form ownA
  have B1 : Hid (Below w.heap.size w w1) := bel1
  have LA : Hid (TokLies w1 aa ts) := lies_own ownA hn.out
  have OA : Hid (∀ b, aa = some ⟨b, 0, none⟩ → b < w1.heap.size) := fun b hb => (own_block ownA b hb).2
  clear ownA bel1
  go_wp2_with fail
  go_loopw [10, 11] (fun e i wr => LiesRel w1 n ts e i wr) (fun _ i _ => n - (intOf i).toNat)
  case atStart => exact ⟨0, by omega, rfl, rfl, Below.refl _ _⟩
  case round =>
    obtain ⟨k, hk, rfl, rfl, bel⟩ := hrel
    have BR : Hid (Below w1.heap.size w1 wr) := bel
    clear bel
    by_cases hlt : k < n
    · obtain ⟨kd, tx, nn, A, E, hq, f1, f2, f3, f4, f5⟩ := lies_at s (by omega) ts HT.out k (by rw [hn.out]; exact hlt)
      have HA : Hid (tokens (bytesN (s.extract A E)) = .ok [(kd, tx, nn, 0, E - A)]) := f4
      have HE : Hid (endAt 0 ts (k + 1) = E) := f5
      rcases LA.out with q | ⟨g, rfl, hcell⟩
      · exfalso; have := hn.out; rw [q] at this; simp at this; omega
      have hgs := OA.out g rfl
      obtain ⟨a0, a1, a2, a3, a4⟩ := lies_cells hn.out hcell hlt
      rw [hq] at a0 a1 a2 a3 a4
      simp only at a0 a1 a2 a3 a4
      rw [← BR.out.cell (p := ⟨g, k * 5, none⟩) hgs] at a0
      rw [← BR.out.cell (p := ⟨g, k * 5 + 1, none⟩) hgs] at a1
      rw [← BR.out.cell (p := ⟨g, k * 5 + 2, none⟩) hgs] at a2
      rw [← BR.out.cell (p := ⟨g, k * 5 + 3, none⟩) hgs] at a3
      rw [← BR.out.cell (p := ⟨g, k * 5 + 4, none⟩) hgs] at a4
      obtain ⟨pe, hpe⟩ : ∃ pe, endAt 0 ts k = pe := ⟨_, rfl⟩
      rw [hpe] at f1 ⊢
      obtain ⟨X, hX⟩ : ∃ X, Hid (strN tx = X) := ⟨_, rfl⟩
      rw [hX.out] at a1
      have HG : Hid (g < w1.heap.size) := hgs
      clear f4 f5 hq hcell hpe hgs
      have d1 : decide ((A : Int) < (pe : Int)) = false := by simp; omega
      have d2 : decide ((E : Int) ≤ (A : Int)) = false := by simp; omega
      have d3 : decide ((s.size : Int) < (E : Int)) = false := by simp; omega
      have k1 : (k : Int) < (n : Int) := by omega
      go_wp2_with fail
      go_quiet (fail)
      go_wp2_with fail
      refine (pick_as cut 7 c7 (by omega) (by omega) hc7 hcut _).mono ?_
      rintro e w2 ⟨rfl, rfl⟩
      cases h7k : ((k : Int) % 7 != (c7 : Int)) with
      | false =>
        go_wp2_with fail
        have hAs : (s.extract A E).size ≤ 1048576 := by rw [ByteArray.size_extract]; omega
        have HLr : Hid (Laid (wr.drewN (nq + 1))) := HL.out.on (below_drewN (below_chain B1.out BR.out (Nat.le_refl _)) _)
        have BN : Hid (Below w1.heap.size w1 (wr.drewN (nq + 1))) := below_drewN BR.out _
        have HS : Hid (w1.heap.size ≤ (wr.drewN (nq + 1)).heap.size) := by unfold Hid; rw [drewN_heap]; exact BR.out.size
        have hg3 : g < (wr.drewN (nq + 1)).heap.size := Nat.lt_of_lt_of_le HG.out HS.out
        have i1 : (0 : Int) ≤ (A : Int) := by omega
        have i2 : (A : Int) ≤ (E : Int) := by omega
        have i3 : (E : Int) ≤ (s.size : Int) := by omega
        go_region_held3 (fun w' => w'.cell? ⟨g, k * 5 + 3, none⟩ = some (.int .i64 (A : Int)) ∧ w'.cell? ⟨g, k * 5 + 4, none⟩ = some (.int .i64 (E : Int))) (go_keep) (first | (go_at_call 15; refine (tok_one hAs kd tx nn (E - A) X hX.out HA.out HLr.out).mono ?_; rintro e w3 ⟨g3, cap3, rfl, b0, b1, b2, bel3⟩; have a3' : w3.cell? ⟨g, k * 5 + 3, none⟩ = some (.int .i64 (A : Int)) := (bel3.cell (p := ⟨g, k * 5 + 3, none⟩) hg3).trans (by simpa using a3); have a4' : w3.cell? ⟨g, k * 5 + 4, none⟩ = some (.int .i64 (E : Int)) := (bel3.cell (p := ⟨g, k * 5 + 4, none⟩) hg3).trans (by simpa using a4); have B3 : Hid (Below (wr.drewN (nq + 1)).heap.size (wr.drewN (nq + 1)) w3) := bel3; clear bel3))
        all_goals
          have a0' : w3.cell? ⟨g, k * 5, none⟩ = some (.int .u8 (kd : Int)) := (B3.out.cell (p := ⟨g, k * 5, none⟩) hg3).trans (by simpa using a0)
          have a1' : w3.cell? ⟨g, k * 5 + 1, none⟩ = some (.string X) := (B3.out.cell (p := ⟨g, k * 5 + 1, none⟩) hg3).trans (by simpa using a1)
          have a2' : w3.cell? ⟨g, k * 5 + 2, none⟩ = some (.int .u64 (nn : Int)) := (B3.out.cell (p := ⟨g, k * 5 + 2, none⟩) hg3).trans (by simpa using a2)
          clear a0 a1 a2 a3 a4 hg3
          go_wp2_with fail
          go_quiet (fail)
          go_wp2_with fail
          go_roundw
          case rel => exact ⟨k + 1, by omega, by go_num, by rw [HE.out], below_drewN (below_chain BN.out B3.out (Nat.le_refl _)) _⟩
          case measure => simp [intOf]; omega
      | true =>
        go_wp2_with fail
        go_roundw
        case rel => exact ⟨k + 1, by omega, by go_num, by rw [HE.out], below_drewN BR.out _⟩
        case measure => simp [intOf]; omega
    · have hkn : k = n := by omega
      subst hkn
      obtain ⟨P, hP, hP2⟩ : ∃ P, Hid (placeOf 0 (bytesN s) ts K = P) ∧ P ≤ s.size := by
        refine ⟨_, rfl, ?_⟩
        rw [lies_place]
        split
        · rename_i hh
          obtain ⟨kd, tx, nn, A, E, hq, f1, f2, f3, f4, f5⟩ := lies_at s (by omega) ts HT.out K hh
          rw [hq]; show A ≤ _; omega
        · omega
      have hP3 := hP.out
      rw [lies_place, hn.out] at hP3
      go_wp2_with fail
      refine (pick_as cut ((k : Int) + 1) K (by omega) (by omega) hK hcut _).mono ?_
      rintro e w2 ⟨rfl, rfl⟩
      go_upto_if 166 with fail
      go_cut [16] (fun p wx => p = .int .i64 (P : Int) ∧ wx = wr)
      case first =>
        by_cases hKk : K < k
        · rw [if_pos hKk] at hP3
          rcases LA.out with q | ⟨g, rfl, hcell⟩
          · exfalso; have := hn.out; rw [q] at this; simp at this; omega
          have hgs := OA.out g rfl
          obtain ⟨a0, a1, a2, a3, a4⟩ := lies_cells hn.out hcell hKk
          rw [hP3, ← BR.out.cell (p := ⟨g, K * 5 + 3, none⟩) hgs] at a3
          clear a0 a1 a2 a4 hcell hgs hP3
          go_wp2_with fail
          go_meet
          exact ⟨rfl, rfl⟩
        · rw [if_neg hKk] at hP3
          subst hP3
          go_wp2_with fail
          go_meet
          exact ⟨rfl, rfl⟩
      case rest =>
        obtain ⟨rfl, rfl⟩ := hcut
        clear hP3
        go_wp2_with fail
        refine (pick_as kind 4 3 (by omega) (by omega) hJ hkind _).mono ?_
        rintro e w4 ⟨rfl, rfl⟩
        have hHT := lies_ins2 s ⟨#[13, 47, 47, 10]⟩ 4 rfl (by omega) bl3 ts HT.out K P (by rw [hn.out]; exact hKn) hP.out hP2
        obtain ⟨ms, hms⟩ : ∃ ms, Hid (ts.take K ++ (ts.drop K).map (shiftK 4) = ms) := ⟨_, rfl⟩
        rw [hms.out] at hHT
        have HTM : Hid (tokens (bytesN (s.extract 0 P ++ ⟨#[13, 47, 47, 10]⟩ ++ s.extract P s.size)) = .ok ms) := hHT
        have hml : Hid (ms.length = k) := by unfold Hid; rw [← hms.out, List.length_append, List.length_map, List.length_take, List.length_drop, hn.out]; omega
        have hZs : (s.extract 0 P ++ ⟨#[13, 47, 47, 10]⟩ ++ s.extract P s.size).size ≤ 1048576 := by rw [ByteArray.size_append, ByteArray.size_append, ByteArray.size_extract, ByteArray.size_extract, show ByteArray.size ⟨#[13, 47, 47, 10]⟩ = 4 from rfl]; omega
        have HMS : Hid (∀ i, i < k → ms.getD i default = if K ≤ i then shiftK 4 (ts.getD i default) else ts.getD i default) := by
          intro i hi
          rw [← hms.out]; exact lies_shift ts K 4 i (by rw [hn.out]; exact hi) (by rw [hn.out]; exact hKn)
        clear hHT hms
        go_upto_region 22 with fail
        go_region_with (go_at_call 15; refine (tok_ins hZs ms k hml.out HTM.out (HL.out.on (below_chain B1.out (BR.out.alloc BR.out.size _) (Nat.le_refl _)).drew)).mono ?_; rintro e w3 ⟨am, cm, rfl, m1, m2, bel3⟩; have HM1 : Hid (TokLies w3 am ms) := m1; have HM2 : Hid (∀ b, am = some ⟨b, 0, none⟩ → b < w3.heap.size) := m2; have HM3 : Hid (Below w1.heap.size w1 w3) := below_chain (BR.out.alloc BR.out.size _).drew bel3 (Nat.le_refl _); clear m1 m2 bel3)
        all_goals
          go_wp2_with fail
          go_loopw [21] (fun i wr => LiesRel2 w3 k i wr) (fun i _ => k - (intOf i).toNat)
          case atStart => exact ⟨0, by omega, rfl, Below.refl _ _⟩
          case round =>
            obtain ⟨i, hi, rfl, bel⟩ := hrel
            have BL : Hid (Below w3.heap.size w3 wr) := bel
            clear bel
            by_cases hlt2 : i < k
            · obtain ⟨kd, tx, nn, A, E, hq, f1, f2, f3, f4, f5⟩ := lies_at s (by omega) ts HT.out i (by rw [hn.out]; exact hlt2)
              rcases LA.out with q | ⟨g, rfl, hcell⟩
              · exfalso; have := hn.out; rw [q] at this; simp at this; omega
              rcases HM1.out with q | ⟨gm, rfl, mcell⟩
              · exfalso; have := hml.out; rw [q] at this; simp at this; omega
              have hgs := OA.out g rfl
              have hgm := HM2.out gm rfl
              have BW : Below w1.heap.size w1 wr := below_chain HM3.out BL.out (Nat.le_refl _)
              have hme := HMS.out i hlt2
              obtain ⟨a0, a1, a2, a3, a4⟩ := lies_cells hn.out hcell hlt2
              obtain ⟨b0, b1, b2, b3, b4⟩ := lies_cells hml.out mcell hlt2
              rw [hme, hq] at b0 b1 b2 b3 b4
              rw [hq, ← BW.cell (p := ⟨g, i * 5, none⟩) hgs] at a0
              rw [hq, ← BW.cell (p := ⟨g, i * 5 + 1, none⟩) hgs] at a1
              rw [hq, ← BW.cell (p := ⟨g, i * 5 + 2, none⟩) hgs] at a2
              rw [hq, ← BW.cell (p := ⟨g, i * 5 + 3, none⟩) hgs] at a3
              rw [hq, ← BW.cell (p := ⟨g, i * 5 + 4, none⟩) hgs] at a4
              simp only at a0 a1 a2 a3 a4
              obtain ⟨X, hX⟩ : ∃ X, Hid (strN tx = X) := ⟨_, rfl⟩
              rw [hX.out] at a1
              clear f1 f4 f5 hq hcell mcell hgs hme BW
              by_cases hKi : K ≤ i
              · rw [if_pos hKi] at b0 b1 b2 b3 b4
                simp only [shiftK] at b0 b1 b2 b3 b4
                rw [hX.out] at b1
                rw [Int.natCast_add] at b3 b4
                have c0 : ∀ o, (wr.alloc o).cell? ⟨gm, i * 5, none⟩ = some (.int .u8 (kd : Int)) := fun o => ((BL.out.alloc BL.out.size o).cell (p := ⟨gm, i * 5, none⟩) hgm).trans b0
                have c1 : ∀ o, (wr.alloc o).cell? ⟨gm, i * 5 + 1, none⟩ = some (.string X) := fun o => ((BL.out.alloc BL.out.size o).cell (p := ⟨gm, i * 5 + 1, none⟩) hgm).trans b1
                have c2 : ∀ o, (wr.alloc o).cell? ⟨gm, i * 5 + 2, none⟩ = some (.int .u64 (nn : Int)) := fun o => ((BL.out.alloc BL.out.size o).cell (p := ⟨gm, i * 5 + 2, none⟩) hgm).trans b2
                have c3 : ∀ o, (wr.alloc o).cell? ⟨gm, i * 5 + 3, none⟩ = some (.int .i64 ((A : Int) + 4)) := fun o => ((BL.out.alloc BL.out.size o).cell (p := ⟨gm, i * 5 + 3, none⟩) hgm).trans b3
                have c4 : ∀ o, (wr.alloc o).cell? ⟨gm, i * 5 + 4, none⟩ = some (.int .i64 ((E : Int) + 4)) := fun o => ((BL.out.alloc BL.out.size o).cell (p := ⟨gm, i * 5 + 4, none⟩) hgm).trans b4
                clear b0 b1 b2 b3 b4 hgm
                go_wp2_with fail
                go_quiet (fail)
                go_wp2_with fail
                go_roundw
                case rel => exact ⟨i + 1, by omega, by go_num, below_drewN (BL.out.alloc BL.out.size _) _⟩
                case measure => simp [intOf]; omega
              · rw [if_neg hKi] at b0 b1 b2 b3 b4
                simp only at b0 b1 b2 b3 b4
                rw [hX.out] at b1
                have c0 : ∀ o, (wr.alloc o).cell? ⟨gm, i * 5, none⟩ = some (.int .u8 (kd : Int)) := fun o => ((BL.out.alloc BL.out.size o).cell (p := ⟨gm, i * 5, none⟩) hgm).trans b0
                have c1 : ∀ o, (wr.alloc o).cell? ⟨gm, i * 5 + 1, none⟩ = some (.string X) := fun o => ((BL.out.alloc BL.out.size o).cell (p := ⟨gm, i * 5 + 1, none⟩) hgm).trans b1
                have c2 : ∀ o, (wr.alloc o).cell? ⟨gm, i * 5 + 2, none⟩ = some (.int .u64 (nn : Int)) := fun o => ((BL.out.alloc BL.out.size o).cell (p := ⟨gm, i * 5 + 2, none⟩) hgm).trans b2
                have c3 : ∀ o, (wr.alloc o).cell? ⟨gm, i * 5 + 3, none⟩ = some (.int .i64 ((A : Int))) := fun o => ((BL.out.alloc BL.out.size o).cell (p := ⟨gm, i * 5 + 3, none⟩) hgm).trans b3
                have c4 : ∀ o, (wr.alloc o).cell? ⟨gm, i * 5 + 4, none⟩ = some (.int .i64 ((E : Int))) := fun o => ((BL.out.alloc BL.out.size o).cell (p := ⟨gm, i * 5 + 4, none⟩) hgm).trans b4
                clear b0 b1 b2 b3 b4 hgm
                go_wp2_with fail
                go_quiet (fail)
                go_wp2_with fail
                go_roundw
                case rel => exact ⟨i + 1, by omega, by go_num, below_drewN (BL.out.alloc BL.out.size _) _⟩
                case measure => simp [intOf]; omega
            · have hik : i = k := by omega
              subst hik
              have B4 : Hid (Below w.heap.size w wr) := below_chain (below_chain B1.out HM3.out (Nat.le_refl _)) BL.out (Nat.le_refl _)
              go_wp2_with fail
              refine (works_any _ (HL.out.on B4.out)).mono ?_
              rintro e w8 ⟨rfl, bel8⟩
              go_wp2
              go_ret
              exact ⟨rfl, below_chain B4.out bel8 (Nat.le_refl _)⟩
end Go.Proofs.YteeoakbafbnkhaaDoor
