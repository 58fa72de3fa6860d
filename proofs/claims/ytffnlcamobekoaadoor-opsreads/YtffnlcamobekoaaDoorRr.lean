/-
  CONTRACT of the document's reader: number.
-/
import Derived.Test.YtffnlcamobekoaaDoorLk
import Derived.StillTailTactics
import Derived.Deep.QuietTactic
import Derived.BigQuiet
namespace Go.Proofs.YtffnlcamobekoaaDoor
open Go.RowKit
set_option linter.unusedVariables false

/-- The document's reader: where it is only where nothing is wrong. -/
def RrAt (w : World) (r : Nat) (a : Option Addr) (L cap : Nat) (s : St) : Prop := ∃ p : Int, Own w r #[.slice a L cap, .int .i64 p, .int .i64 (s.2 : Int)] 84 ∧ (s.2 = 0 → p = (s.1 : Int))
def RrRet (r : Nat) (a : Option Addr) (L cap : Nat) (s : St) (w w' : World) : Prop := RrAt w' r a L cap s ∧ Fr (fun b => b = r) w w'
set_option maxHeartbeats 1000000 in
theorem rrnum_err (k : Nm) {w : World} {r : Nat} {a : Option Addr} {L cap : Nat} {s : St} (h : RrAt w r a L cap s) (hs : s.2 ≠ 0) :
    Calls Tryd.prog 42 #[ptr r, .agg (partC k).toArray] w fun e w' => e = .returned (.int .i64 0) ∧ RrRet r a L cap s w w' := by
  obtain ⟨p, ho, hp⟩ := h
  have oP := Own.new w #[.int .i64 (k.sz : Int), .int .i64 k.lo, .int .i64 k.hi, .bool k.sg] 67
  have o1 := ho.alloc (.cells #[.int .i64 (k.sz : Int), .int .i64 k.lo, .int .i64 k.hi, .bool k.sg] 67)
  have hfr : Fr (fun b => b = r) w (w.alloc (.cells #[.int .i64 (k.sz : Int), .int .i64 k.lo, .int .i64 k.hi, .bool k.sg] 67)) := (Fr.refl _ _).alloc _
  have hne : (((s.2 : Nat) : Int) == 0) = false := by rw [beq_eq_false_iff_ne]; omega
  have HR : Hid (∀ W, Own W r #[.slice a L cap, .int .i64 p, .int .i64 (s.2 : Int)] 84 → Fr (fun b => b = r) w W → RrRet r a L cap s w W) := fun W q1 q2 => ⟨⟨p, q1, hp⟩, q2⟩
  clear hp hs ho
  unfold partC
  generalize (k.sz : Int) = z at *
  generalize k.lo = lo at *
  generalize k.hi = hi at *
  generalize k.sg = sg at *
  generalize ((s.2 : Nat) : Int) = e2 at *
  go_enter Tryd.func42, Tryd.ntmps42
  go_upto_region 1 with fail
  generalize w.alloc (.cells #[.int .i64 z, .int .i64 lo, .int .i64 hi, .bool sg] 67) = w1 at *
  obtain ⟨c0, c1, c2, hf⟩ := own3 o1
  go_wp2
  go_ret
  exact ⟨rfl, HR.out _ o1 hfr⟩
set_option maxHeartbeats 1000000 in
theorem rrnum_short (k : Nm) {w : World} {r : Nat} {a : Option Addr} {L cap p : Nat} (h : RrAt w r a L cap (p, 0)) (h8 : k.sz ≤ 8) (hpL : p ≤ L) (hL : L ≤ 9223372036854775807) (hsh : L < p + k.sz) :
    Calls Tryd.prog 42 #[ptr r, .agg (partC k).toArray] w fun e w' => e = .returned (.int .i64 0) ∧ RrRet r a L cap (p, 10) w w' := by
  obtain ⟨p', ho, hp⟩ := h
  have hp' : p' = (p : Int) := hp rfl
  have oP := Own.new w #[.int .i64 (k.sz : Int), .int .i64 k.lo, .int .i64 k.hi, .bool k.sg] 67
  have o1 : Own (w.alloc (.cells #[.int .i64 (k.sz : Int), .int .i64 k.lo, .int .i64 k.hi, .bool k.sg] 67)) r #[.slice a L cap, .int .i64 p', .int .i64 0] 84 := ho.alloc (.cells #[.int .i64 (k.sz : Int), .int .i64 k.lo, .int .i64 k.hi, .bool k.sg] 67)
  have hfr : Fr (fun b => b = r) w (w.alloc (.cells #[.int .i64 (k.sz : Int), .int .i64 k.lo, .int .i64 k.hi, .bool k.sg] 67)) := (Fr.refl _ _).alloc _
  have HR : Hid (∀ W, Own W r #[.slice a L cap, .int .i64 p', .int .i64 0] 84 → Fr (fun b => b = r) w W → RrRet r a L cap (p, 10) w (W.setCell ⟨r, 2, none⟩ (.int .i64 10))) := fun W q1 q2 =>
    ⟨⟨p', by simpa using q1.set 2 (.int .i64 10), fun q => by cases q⟩, q2.set (g := r) (.inr rfl) 2 _⟩
  have hz : (L : Int) - p' < (k.sz : Int) := by omega
  have hp0 : 0 ≤ p' := by omega
  have hp1 : p' ≤ (L : Int) := by omega
  clear hp ho hp' hsh
  unfold partC
  have hz8 : (k.sz : Int) ≤ 8 := by omega
  generalize (k.sz : Int) = z at *
  generalize k.lo = lo at *
  generalize k.hi = hi at *
  generalize k.sg = sg at *
  go_enter Tryd.func42, Tryd.ntmps42
  go_upto_region 1 with fail
  generalize w.alloc (.cells #[.int .i64 z, .int .i64 lo, .int .i64 hi, .bool sg] 67) = w1 at *
  obtain ⟨c0, c1, c2, hf⟩ := own3 o1
  obtain ⟨d0, d1, d2, d3, dg⟩ := own4 oP
  go_wp2_with fail
  go_quiet (fail)
  have o2 := o1.drewN nq
  have hfr2 := hfr.drewN nq
  go_wp2
  go_ret
  exact ⟨rfl, HR.out _ o2 hfr2⟩
set_option maxHeartbeats 2000000 in
set_option maxRecDepth 100000 in
theorem rrnum_u1 (k : Nm) (Z : Nat) (lo hi : Int) (hZ1 : 1 ≤ Z) (hZ4 : Z ≤ 4) {w : World} {r b off L cap p : Nat} {xs : List Nat} (hk : k = ⟨Z, false, lo, hi⟩) (h : RrAt w r (some ⟨b, off, none⟩) L cap (p, 0)) (hL : L = xs.length) (hb : ∀ c ∈ xs, c < 256) (hm : L ≤ 9223372036854775807)
    (hc : ∀ i, i < xs.length → w.cell? ⟨b, off + i, none⟩ = some (.int .u8 ((xs.getD i 0 : Nat) : Int))) (hbl : b < w.heap.size) (hp : p + Z ≤ L) (u : Nat) (hu : wid ((xs.drop p).take Z) = u) (hu4 : u < 4294967296) (V : Int) (hV : V = (u : Int)) (hmay : k.may V = true) :
    Calls Tryd.prog 42 #[ptr r, .agg (partC k).toArray] w fun e w' => e = .returned (.int .i64 V) ∧ RrRet r (some ⟨b, off, none⟩) L cap (p + Z, 0) w w' := by
  obtain ⟨p', ho, hp'⟩ := h
  have hpp : p' = (p : Int) := hp' rfl
  subst hpp
  have oP := Own.new w #[.int .i64 (Z : Int), .int .i64 lo, .int .i64 hi, .bool false] 67
  have o1 : Own (w.alloc (.cells #[.int .i64 (Z : Int), .int .i64 lo, .int .i64 hi, .bool false] 67)) r #[.slice (some ⟨b, off, none⟩) L cap, .int .i64 (p : Int), .int .i64 0] 84 := ho.alloc (.cells #[.int .i64 (Z : Int), .int .i64 lo, .int .i64 hi, .bool false] 67)
  have hfr : Fr (fun b => b = r) w (w.alloc (.cells #[.int .i64 (Z : Int), .int .i64 lo, .int .i64 hi, .bool false] 67)) := (Fr.refl _ _).alloc _
  have HC : Hid (∀ i, i < xs.length → (w.alloc (.cells #[.int .i64 (Z : Int), .int .i64 lo, .int .i64 hi, .bool false] 67)).cell? ⟨b, off + i, none⟩ = some (.int .u8 ((xs.getD i 0 : Nat) : Int))) := fun i hii => ((new_below w (.cells #[.int .i64 (Z : Int), .int .i64 lo, .int .i64 hi, .bool false] 67)).cell (p := ⟨b, off + i, none⟩) hbl).trans (hc i hii)
  have HB : Hid (∀ i, i < xs.length → xs.getD i 0 < 256) := by
    intro i hi
    exact hb _ (by simp [List.getD, hi])
  have HW : Hid (∀ j, wid ((xs.drop p).take j) < 256 ^ ((xs.drop p).take j).length) := fun j => wid_lt _ fun c hc => hb c (List.mem_of_mem_drop (List.mem_of_mem_take hc))
  have HL : Hid (L = xs.length) := hL
  have HU : Hid (wid ((xs.drop p).take Z) = u) := hu
  have HV : Hid (V = (u : Int)) := hV
  have HM : Hid (∀ n W, n = V → Calls Tryd.prog 54 #[.agg #[.int .i64 (Z : Int), .int .i64 lo, .int .i64 hi, .bool false], .int .i64 n] W fun e w' => e = .returned (.bool true) ∧ Below W.heap.size W w') := fun n W e => by
    have := rwithin_as k n W
    rw [e, hmay, hk] at this
    rw [e]
    exact this
  rw [hk]
  have hpL : (p : Int) ≤ (L : Int) := by omega
  have hsz : (Z : Int) ≤ (L : Int) - (p : Int) := by omega
  have hr : w.heap.size ≠ r := by have := ho.lt; omega
  clear hc hL hb hu hV hmay hk hp' ho hbl
  unfold partC
  go_enter Tryd.func42, Tryd.ntmps42
  go_upto_region 1 with fail
  generalize w.alloc (.cells #[.int .i64 (Z : Int), .int .i64 lo, .int .i64 hi, .bool false] 67) = w1 at *
  obtain ⟨c0, c1, c2, hf⟩ := own3 o1
  obtain ⟨d0, d1, d2, d3, dg⟩ := own4 oP
  go_wp2_with fail
  go_quiet (fail)
  go_wp2_with fail
  go_loopw [5, 6] (fun n i wr => ∃ j q : Nat, j ≤ Z ∧ i = .int .i64 (j : Int) ∧ n = .int .u64 ((wid ((xs.drop p).take j) : Nat) : Int) ∧ wr = w1.drewN q) (fun _ i _ => Z - (intOf i).toNat)
  case atStart => exact ⟨0, nq, Nat.zero_le _, rfl, rfl, rfl⟩
  case round =>
    obtain ⟨j, q, hj, rfl, rfl, rfl⟩ := hrel
    by_cases hlt : j < Z
    · obtain ⟨c, hcc⟩ : ∃ c, c = xs.getD (p + j) 0 := ⟨_, rfl⟩
      have hcell : w1.cell? ⟨b, off + (p + j), none⟩ = some (.int .u8 (c : Int)) := by rw [hcc]; exact HC.out (p + j) (by rw [← HL.out]; omega)
      have h256 : c < 256 := by rw [hcc]; exact HB.out (p + j) (by rw [← HL.out]; omega)
      have hlen : j < (xs.drop p).length := by have := HL.out; simp; omega
      have e1 : wid ((xs.drop p).take (j + 1)) = wid ((xs.drop p).take j) + c * 256 ^ j := wid_step _ j c hlen (by rw [hcc]; simp [List.getD])
      have hw := HW.out j
      rw [List.length_take, Nat.min_eq_left (by omega)] at hw
      have HWK : Hid (wid ((xs.drop p).take j) < 256 ^ j) := hw
      have HE : Hid (wid ((xs.drop p).take (j + 1)) = wid ((xs.drop p).take j) + c * 256 ^ j) := e1
      have hj2 : (j : Int) < (Z : Int) := by omega
      have hpj : (p : Int) + (j : Int) < (L : Int) := by omega
      clear e1 hw hcc hlen
      go_wp2_with fail
      go_quiet (fail)
      go_wp2
      go_roundw
      case rel => exact ⟨j + 1, _, hlt, by go_num, by rw [HE.out, wide_or _ j c HWK.out (by omega) h256], rfl⟩
      case measure => simp [intOf]; omega
    · obtain rfl : j = Z := by omega
      rw [HU.out]
      have o2 := o1.drewN q
      have oP2 := oP.drewN q
      have hfr2 := hfr.drewN q
      clear c0 c1 c2 hf d0 d1 d2 d3 dg o1 oP hfr HC HW HB
      generalize w1.drewN q = w2 at *
      obtain ⟨c0, c1, c2, hf⟩ := own3 o2
      obtain ⟨d0, d1, d2, d3, dg⟩ := own4 oP2
      go_wp2_with fail
      go_still_tail 10, (by kernel_rfl)
      have o3 : Own (w2.setCell ⟨r, 1, none⟩ (.int .i64 ((p : Int) + (j : Int)))).drew r #[.slice (some ⟨b, off, none⟩) L cap, .int .i64 ((p : Int) + (j : Int)), .int .i64 0] 84 := by simpa using (o2.set 1 (.int .i64 ((p : Int) + (j : Int)))).drew
      have oP3 := (oP2.other (i := 1) hr (.int .i64 ((p : Int) + (j : Int)))).drew
      have hfr3 := (hfr2.set (g := r) (.inr rfl) 1 (.int .i64 ((p : Int) + (j : Int)))).drew
      go_upto_region 12 with fail
      clear c0 c1 c2 hf d0 d1 d2 d3 dg o2 oP2 hfr2
      generalize (w2.setCell ⟨r, 1, none⟩ (.int .i64 ((p : Int) + (j : Int)))).drew = w3 at *
      obtain ⟨c0, c1, c2, hf⟩ := own3 o3
      obtain ⟨d0, d1, d2, d3, dg⟩ := own4 oP3
      go_wp2_with fail
      refine Calls.mono (HM.out _ w3 (by rw [HV.out])) ?_
      rintro e w4 ⟨rfl, b4⟩
      have o4 := o3.below b4
      have hfr4 := hfr3.trans (Fr.of b4)
      clear c0 c1 c2 hf d0 d1 d2 d3 dg o3 oP3 hfr3 b4 HM
      go_wp2
      go_ret
      exact ⟨ret_int (by rw [HV.out]), ⟨_, o4, fun _ => by simp⟩, hfr4⟩
set_option maxHeartbeats 2000000 in
set_option maxRecDepth 100000 in
theorem rrnum_u0 (k : Nm) (Z : Nat) (lo hi : Int) (hZ1 : 1 ≤ Z) (hZ4 : Z ≤ 4) {w : World} {r b off L cap p : Nat} {xs : List Nat} (hk : k = ⟨Z, false, lo, hi⟩) (h : RrAt w r (some ⟨b, off, none⟩) L cap (p, 0)) (hL : L = xs.length) (hb : ∀ c ∈ xs, c < 256) (hm : L ≤ 9223372036854775807)
    (hc : ∀ i, i < xs.length → w.cell? ⟨b, off + i, none⟩ = some (.int .u8 ((xs.getD i 0 : Nat) : Int))) (hbl : b < w.heap.size) (hp : p + Z ≤ L) (u : Nat) (hu : wid ((xs.drop p).take Z) = u) (hu4 : u < 4294967296) (V : Int) (hV : V = (u : Int)) (hmay : k.may V = false) :
    Calls Tryd.prog 42 #[ptr r, .agg (partC k).toArray] w fun e w' => e = .returned (.int .i64 0) ∧ RrRet r (some ⟨b, off, none⟩) L cap (p, 120) w w' := by
  obtain ⟨p', ho, hp'⟩ := h
  have hpp : p' = (p : Int) := hp' rfl
  subst hpp
  have oP := Own.new w #[.int .i64 (Z : Int), .int .i64 lo, .int .i64 hi, .bool false] 67
  have o1 : Own (w.alloc (.cells #[.int .i64 (Z : Int), .int .i64 lo, .int .i64 hi, .bool false] 67)) r #[.slice (some ⟨b, off, none⟩) L cap, .int .i64 (p : Int), .int .i64 0] 84 := ho.alloc (.cells #[.int .i64 (Z : Int), .int .i64 lo, .int .i64 hi, .bool false] 67)
  have hfr : Fr (fun b => b = r) w (w.alloc (.cells #[.int .i64 (Z : Int), .int .i64 lo, .int .i64 hi, .bool false] 67)) := (Fr.refl _ _).alloc _
  have HC : Hid (∀ i, i < xs.length → (w.alloc (.cells #[.int .i64 (Z : Int), .int .i64 lo, .int .i64 hi, .bool false] 67)).cell? ⟨b, off + i, none⟩ = some (.int .u8 ((xs.getD i 0 : Nat) : Int))) := fun i hii => ((new_below w (.cells #[.int .i64 (Z : Int), .int .i64 lo, .int .i64 hi, .bool false] 67)).cell (p := ⟨b, off + i, none⟩) hbl).trans (hc i hii)
  have HB : Hid (∀ i, i < xs.length → xs.getD i 0 < 256) := by
    intro i hi
    exact hb _ (by simp [List.getD, hi])
  have HW : Hid (∀ j, wid ((xs.drop p).take j) < 256 ^ ((xs.drop p).take j).length) := fun j => wid_lt _ fun c hc => hb c (List.mem_of_mem_drop (List.mem_of_mem_take hc))
  have HL : Hid (L = xs.length) := hL
  have HU : Hid (wid ((xs.drop p).take Z) = u) := hu
  have HV : Hid (V = (u : Int)) := hV
  have HM : Hid (∀ n W, n = V → Calls Tryd.prog 54 #[.agg #[.int .i64 (Z : Int), .int .i64 lo, .int .i64 hi, .bool false], .int .i64 n] W fun e w' => e = .returned (.bool false) ∧ Below W.heap.size W w') := fun n W e => by
    have := rwithin_as k n W
    rw [e, hmay, hk] at this
    rw [e]
    exact this
  rw [hk]
  have hpL : (p : Int) ≤ (L : Int) := by omega
  have hsz : (Z : Int) ≤ (L : Int) - (p : Int) := by omega
  have hr : w.heap.size ≠ r := by have := ho.lt; omega
  clear hc hL hb hu hV hmay hk hp' ho hbl
  unfold partC
  go_enter Tryd.func42, Tryd.ntmps42
  go_upto_region 1 with fail
  generalize w.alloc (.cells #[.int .i64 (Z : Int), .int .i64 lo, .int .i64 hi, .bool false] 67) = w1 at *
  obtain ⟨c0, c1, c2, hf⟩ := own3 o1
  obtain ⟨d0, d1, d2, d3, dg⟩ := own4 oP
  go_wp2_with fail
  go_quiet (fail)
  go_wp2_with fail
  go_loopw [5, 6] (fun n i wr => ∃ j q : Nat, j ≤ Z ∧ i = .int .i64 (j : Int) ∧ n = .int .u64 ((wid ((xs.drop p).take j) : Nat) : Int) ∧ wr = w1.drewN q) (fun _ i _ => Z - (intOf i).toNat)
  case atStart => exact ⟨0, nq, Nat.zero_le _, rfl, rfl, rfl⟩
  case round =>
    obtain ⟨j, q, hj, rfl, rfl, rfl⟩ := hrel
    by_cases hlt : j < Z
    · obtain ⟨c, hcc⟩ : ∃ c, c = xs.getD (p + j) 0 := ⟨_, rfl⟩
      have hcell : w1.cell? ⟨b, off + (p + j), none⟩ = some (.int .u8 (c : Int)) := by rw [hcc]; exact HC.out (p + j) (by rw [← HL.out]; omega)
      have h256 : c < 256 := by rw [hcc]; exact HB.out (p + j) (by rw [← HL.out]; omega)
      have hlen : j < (xs.drop p).length := by have := HL.out; simp; omega
      have e1 : wid ((xs.drop p).take (j + 1)) = wid ((xs.drop p).take j) + c * 256 ^ j := wid_step _ j c hlen (by rw [hcc]; simp [List.getD])
      have hw := HW.out j
      rw [List.length_take, Nat.min_eq_left (by omega)] at hw
      have HWK : Hid (wid ((xs.drop p).take j) < 256 ^ j) := hw
      have HE : Hid (wid ((xs.drop p).take (j + 1)) = wid ((xs.drop p).take j) + c * 256 ^ j) := e1
      have hj2 : (j : Int) < (Z : Int) := by omega
      have hpj : (p : Int) + (j : Int) < (L : Int) := by omega
      clear e1 hw hcc hlen
      go_wp2_with fail
      go_quiet (fail)
      go_wp2
      go_roundw
      case rel => exact ⟨j + 1, _, hlt, by go_num, by rw [HE.out, wide_or _ j c HWK.out (by omega) h256], rfl⟩
      case measure => simp [intOf]; omega
    · obtain rfl : j = Z := by omega
      rw [HU.out]
      have o2 := o1.drewN q
      have oP2 := oP.drewN q
      have hfr2 := hfr.drewN q
      clear c0 c1 c2 hf d0 d1 d2 d3 dg o1 oP hfr HC HW HB
      generalize w1.drewN q = w2 at *
      obtain ⟨c0, c1, c2, hf⟩ := own3 o2
      obtain ⟨d0, d1, d2, d3, dg⟩ := own4 oP2
      go_wp2_with fail
      go_still_tail 10, (by kernel_rfl)
      have o3 : Own (w2.setCell ⟨r, 1, none⟩ (.int .i64 ((p : Int) + (j : Int)))).drew r #[.slice (some ⟨b, off, none⟩) L cap, .int .i64 ((p : Int) + (j : Int)), .int .i64 0] 84 := by simpa using (o2.set 1 (.int .i64 ((p : Int) + (j : Int)))).drew
      have oP3 := (oP2.other (i := 1) hr (.int .i64 ((p : Int) + (j : Int)))).drew
      have hfr3 := (hfr2.set (g := r) (.inr rfl) 1 (.int .i64 ((p : Int) + (j : Int)))).drew
      go_upto_region 12 with fail
      clear c0 c1 c2 hf d0 d1 d2 d3 dg o2 oP2 hfr2
      generalize (w2.setCell ⟨r, 1, none⟩ (.int .i64 ((p : Int) + (j : Int)))).drew = w3 at *
      obtain ⟨c0, c1, c2, hf⟩ := own3 o3
      obtain ⟨d0, d1, d2, d3, dg⟩ := own4 oP3
      go_wp2_with fail
      refine Calls.mono (HM.out _ w3 (by rw [HV.out])) ?_
      rintro e w4 ⟨rfl, b4⟩
      have o4 := o3.below b4
      have hfr4 := hfr3.trans (Fr.of b4)
      have o5 : Own (w4.setCell ⟨r, 2, none⟩ (.int .i64 120)) r #[.slice (some ⟨b, off, none⟩) L cap, .int .i64 ((p : Int) + (j : Int)), .int .i64 120] 84 := by simpa using o4.set 2 (.int .i64 120)
      have hfr5 := hfr4.set (g := r) (.inr rfl) 2 (.int .i64 120)
      clear c0 c1 c2 hf d0 d1 d2 d3 dg o3 oP3 hfr3 b4 HM
      obtain ⟨c0, c1, c2, hf⟩ := own3 o4
      clear o4 hfr4
      go_wp2
      go_ret
      exact ⟨rfl, ⟨_, o5, fun q => by cases q⟩, hfr5⟩
set_option maxHeartbeats 2000000 in
set_option maxRecDepth 100000 in
theorem rrnum_s1lo1 (k : Nm) (lo hi : Int) {w : World} {r b off L cap p : Nat} {xs : List Nat} (hk : k = ⟨1, true, lo, hi⟩) (h : RrAt w r (some ⟨b, off, none⟩) L cap (p, 0)) (hL : L = xs.length) (hb : ∀ c ∈ xs, c < 256) (hm : L ≤ 9223372036854775807)
    (hc : ∀ i, i < xs.length → w.cell? ⟨b, off + i, none⟩ = some (.int .u8 ((xs.getD i 0 : Nat) : Int))) (hbl : b < w.heap.size) (hp : p + 1 ≤ L) (u : Nat) (hu : wid ((xs.drop p).take 1) = u) (h2 : 2 * u < 256) (V : Int) (hV : V = (u : Int)) (hmay : k.may V = true) :
    Calls Tryd.prog 42 #[ptr r, .agg (partC k).toArray] w fun e w' => e = .returned (.int .i64 V) ∧ RrRet r (some ⟨b, off, none⟩) L cap (p + 1, 0) w w' := by
  obtain ⟨p', ho, hp'⟩ := h
  have hpp : p' = (p : Int) := hp' rfl
  subst hpp
  have oP := Own.new w #[.int .i64 1, .int .i64 lo, .int .i64 hi, .bool true] 67
  have o1 : Own (w.alloc (.cells #[.int .i64 1, .int .i64 lo, .int .i64 hi, .bool true] 67)) r #[.slice (some ⟨b, off, none⟩) L cap, .int .i64 (p : Int), .int .i64 0] 84 := ho.alloc (.cells #[.int .i64 1, .int .i64 lo, .int .i64 hi, .bool true] 67)
  have hfr : Fr (fun b => b = r) w (w.alloc (.cells #[.int .i64 1, .int .i64 lo, .int .i64 hi, .bool true] 67)) := (Fr.refl _ _).alloc _
  have HC : Hid (∀ i, i < xs.length → (w.alloc (.cells #[.int .i64 1, .int .i64 lo, .int .i64 hi, .bool true] 67)).cell? ⟨b, off + i, none⟩ = some (.int .u8 ((xs.getD i 0 : Nat) : Int))) := fun i hii => ((new_below w (.cells #[.int .i64 1, .int .i64 lo, .int .i64 hi, .bool true] 67)).cell (p := ⟨b, off + i, none⟩) hbl).trans (hc i hii)
  have HB : Hid (∀ i, i < xs.length → xs.getD i 0 < 256) := by
    intro i hi
    exact hb _ (by simp [List.getD, hi])
  have HW : Hid (∀ j, wid ((xs.drop p).take j) < 256 ^ ((xs.drop p).take j).length) := fun j => wid_lt _ fun c hc => hb c (List.mem_of_mem_drop (List.mem_of_mem_take hc))
  have HL : Hid (L = xs.length) := hL
  have HU : Hid (wid ((xs.drop p).take 1) = u) := hu
  have HV : Hid (V = (u : Int)) := hV
  have HM : Hid (∀ n W, n = V → Calls Tryd.prog 54 #[.agg #[.int .i64 1, .int .i64 lo, .int .i64 hi, .bool true], .int .i64 n] W fun e w' => e = .returned (.bool true) ∧ Below W.heap.size W w') := fun n W e => by
    have := rwithin_as k n W
    rw [e, hmay, hk] at this
    rw [e]
    exact this
  rw [hk]
  have hpL : (p : Int) ≤ (L : Int) := by omega
  have hsz : (1 : Int) ≤ (L : Int) - (p : Int) := by omega
  have hr : w.heap.size ≠ r := by have := ho.lt; omega
  clear hc hL hb hu hV hmay hk hp' ho hbl
  unfold partC
  go_enter Tryd.func42, Tryd.ntmps42
  go_upto_region 1 with fail
  generalize w.alloc (.cells #[.int .i64 1, .int .i64 lo, .int .i64 hi, .bool true] 67) = w1 at *
  obtain ⟨c0, c1, c2, hf⟩ := own3 o1
  obtain ⟨d0, d1, d2, d3, dg⟩ := own4 oP
  go_wp2_with fail
  go_quiet (fail)
  go_wp2_with fail
  go_loopw [5, 6] (fun n i wr => ∃ j q : Nat, j ≤ 1 ∧ i = .int .i64 (j : Int) ∧ n = .int .u64 ((wid ((xs.drop p).take j) : Nat) : Int) ∧ wr = w1.drewN q) (fun _ i _ => 1 - (intOf i).toNat)
  case atStart => exact ⟨0, nq, Nat.zero_le _, rfl, rfl, rfl⟩
  case round =>
    obtain ⟨j, q, hj, rfl, rfl, rfl⟩ := hrel
    by_cases hlt : j < 1
    · obtain ⟨c, hcc⟩ : ∃ c, c = xs.getD (p + j) 0 := ⟨_, rfl⟩
      have hcell : w1.cell? ⟨b, off + (p + j), none⟩ = some (.int .u8 (c : Int)) := by rw [hcc]; exact HC.out (p + j) (by rw [← HL.out]; omega)
      have h256 : c < 256 := by rw [hcc]; exact HB.out (p + j) (by rw [← HL.out]; omega)
      have hlen : j < (xs.drop p).length := by have := HL.out; simp; omega
      have e1 : wid ((xs.drop p).take (j + 1)) = wid ((xs.drop p).take j) + c * 256 ^ j := wid_step _ j c hlen (by rw [hcc]; simp [List.getD])
      have hw := HW.out j
      rw [List.length_take, Nat.min_eq_left (by omega)] at hw
      have HWK : Hid (wid ((xs.drop p).take j) < 256 ^ j) := hw
      have HE : Hid (wid ((xs.drop p).take (j + 1)) = wid ((xs.drop p).take j) + c * 256 ^ j) := e1
      have hj2 : (j : Int) < (1 : Int) := by omega
      have hpj : (p : Int) + (j : Int) < (L : Int) := by omega
      clear e1 hw hcc hlen
      go_wp2_with fail
      go_quiet (fail)
      go_wp2
      go_roundw
      case rel => exact ⟨j + 1, _, hlt, by go_num, by rw [HE.out, wide_or _ j c HWK.out (by omega) h256], rfl⟩
      case measure => simp [intOf]; omega
    · obtain rfl : j = 1 := by omega
      rw [HU.out]
      have o2 := o1.drewN q
      have oP2 := oP.drewN q
      have hfr2 := hfr.drewN q
      clear c0 c1 c2 hf d0 d1 d2 d3 dg o1 oP hfr HC HW HB
      generalize w1.drewN q = w2 at *
      obtain ⟨c0, c1, c2, hf⟩ := own3 o2
      obtain ⟨d0, d1, d2, d3, dg⟩ := own4 oP2
      go_wp2_with fail
      go_still_tail 10, (by kernel_rfl)
      have o3 : Own (w2.setCell ⟨r, 1, none⟩ (.int .i64 ((p : Int) + 1))).drew r #[.slice (some ⟨b, off, none⟩) L cap, .int .i64 ((p : Int) + 1), .int .i64 0] 84 := by simpa using (o2.set 1 (.int .i64 ((p : Int) + 1))).drew
      have oP3 := (oP2.other (i := 1) hr (.int .i64 ((p : Int) + 1))).drew
      have hfr3 := (hfr2.set (g := r) (.inr rfl) 1 (.int .i64 ((p : Int) + 1))).drew
      go_upto_region 12 with fail
      clear c0 c1 c2 hf d0 d1 d2 d3 dg o2 oP2 hfr2
      generalize (w2.setCell ⟨r, 1, none⟩ (.int .i64 ((p : Int) + 1))).drew = w3 at *
      obtain ⟨c0, c1, c2, hf⟩ := own3 o3
      obtain ⟨d0, d1, d2, d3, dg⟩ := own4 oP3
      have hbit : ((u : Int) / 128 == 1) = false := by rw [beq_eq_false_iff_ne]; omega
      go_wp2_with fail
      refine Calls.mono (HM.out _ w3 (by rw [HV.out])) ?_
      rintro e w4 ⟨rfl, b4⟩
      have o4 := o3.below b4
      have hfr4 := hfr3.trans (Fr.of b4)
      clear c0 c1 c2 hf d0 d1 d2 d3 dg o3 oP3 hfr3 b4 HM
      go_wp2
      go_ret
      exact ⟨ret_int (by rw [HV.out]), ⟨_, o4, fun _ => by simp⟩, hfr4⟩
set_option maxHeartbeats 2000000 in
set_option maxRecDepth 100000 in
theorem rrnum_s1lo0 (k : Nm) (lo hi : Int) {w : World} {r b off L cap p : Nat} {xs : List Nat} (hk : k = ⟨1, true, lo, hi⟩) (h : RrAt w r (some ⟨b, off, none⟩) L cap (p, 0)) (hL : L = xs.length) (hb : ∀ c ∈ xs, c < 256) (hm : L ≤ 9223372036854775807)
    (hc : ∀ i, i < xs.length → w.cell? ⟨b, off + i, none⟩ = some (.int .u8 ((xs.getD i 0 : Nat) : Int))) (hbl : b < w.heap.size) (hp : p + 1 ≤ L) (u : Nat) (hu : wid ((xs.drop p).take 1) = u) (h2 : 2 * u < 256) (V : Int) (hV : V = (u : Int)) (hmay : k.may V = false) :
    Calls Tryd.prog 42 #[ptr r, .agg (partC k).toArray] w fun e w' => e = .returned (.int .i64 0) ∧ RrRet r (some ⟨b, off, none⟩) L cap (p, 120) w w' := by
  obtain ⟨p', ho, hp'⟩ := h
  have hpp : p' = (p : Int) := hp' rfl
  subst hpp
  have oP := Own.new w #[.int .i64 1, .int .i64 lo, .int .i64 hi, .bool true] 67
  have o1 : Own (w.alloc (.cells #[.int .i64 1, .int .i64 lo, .int .i64 hi, .bool true] 67)) r #[.slice (some ⟨b, off, none⟩) L cap, .int .i64 (p : Int), .int .i64 0] 84 := ho.alloc (.cells #[.int .i64 1, .int .i64 lo, .int .i64 hi, .bool true] 67)
  have hfr : Fr (fun b => b = r) w (w.alloc (.cells #[.int .i64 1, .int .i64 lo, .int .i64 hi, .bool true] 67)) := (Fr.refl _ _).alloc _
  have HC : Hid (∀ i, i < xs.length → (w.alloc (.cells #[.int .i64 1, .int .i64 lo, .int .i64 hi, .bool true] 67)).cell? ⟨b, off + i, none⟩ = some (.int .u8 ((xs.getD i 0 : Nat) : Int))) := fun i hii => ((new_below w (.cells #[.int .i64 1, .int .i64 lo, .int .i64 hi, .bool true] 67)).cell (p := ⟨b, off + i, none⟩) hbl).trans (hc i hii)
  have HB : Hid (∀ i, i < xs.length → xs.getD i 0 < 256) := by
    intro i hi
    exact hb _ (by simp [List.getD, hi])
  have HW : Hid (∀ j, wid ((xs.drop p).take j) < 256 ^ ((xs.drop p).take j).length) := fun j => wid_lt _ fun c hc => hb c (List.mem_of_mem_drop (List.mem_of_mem_take hc))
  have HL : Hid (L = xs.length) := hL
  have HU : Hid (wid ((xs.drop p).take 1) = u) := hu
  have HV : Hid (V = (u : Int)) := hV
  have HM : Hid (∀ n W, n = V → Calls Tryd.prog 54 #[.agg #[.int .i64 1, .int .i64 lo, .int .i64 hi, .bool true], .int .i64 n] W fun e w' => e = .returned (.bool false) ∧ Below W.heap.size W w') := fun n W e => by
    have := rwithin_as k n W
    rw [e, hmay, hk] at this
    rw [e]
    exact this
  rw [hk]
  have hpL : (p : Int) ≤ (L : Int) := by omega
  have hsz : (1 : Int) ≤ (L : Int) - (p : Int) := by omega
  have hr : w.heap.size ≠ r := by have := ho.lt; omega
  clear hc hL hb hu hV hmay hk hp' ho hbl
  unfold partC
  go_enter Tryd.func42, Tryd.ntmps42
  go_upto_region 1 with fail
  generalize w.alloc (.cells #[.int .i64 1, .int .i64 lo, .int .i64 hi, .bool true] 67) = w1 at *
  obtain ⟨c0, c1, c2, hf⟩ := own3 o1
  obtain ⟨d0, d1, d2, d3, dg⟩ := own4 oP
  go_wp2_with fail
  go_quiet (fail)
  go_wp2_with fail
  go_loopw [5, 6] (fun n i wr => ∃ j q : Nat, j ≤ 1 ∧ i = .int .i64 (j : Int) ∧ n = .int .u64 ((wid ((xs.drop p).take j) : Nat) : Int) ∧ wr = w1.drewN q) (fun _ i _ => 1 - (intOf i).toNat)
  case atStart => exact ⟨0, nq, Nat.zero_le _, rfl, rfl, rfl⟩
  case round =>
    obtain ⟨j, q, hj, rfl, rfl, rfl⟩ := hrel
    by_cases hlt : j < 1
    · obtain ⟨c, hcc⟩ : ∃ c, c = xs.getD (p + j) 0 := ⟨_, rfl⟩
      have hcell : w1.cell? ⟨b, off + (p + j), none⟩ = some (.int .u8 (c : Int)) := by rw [hcc]; exact HC.out (p + j) (by rw [← HL.out]; omega)
      have h256 : c < 256 := by rw [hcc]; exact HB.out (p + j) (by rw [← HL.out]; omega)
      have hlen : j < (xs.drop p).length := by have := HL.out; simp; omega
      have e1 : wid ((xs.drop p).take (j + 1)) = wid ((xs.drop p).take j) + c * 256 ^ j := wid_step _ j c hlen (by rw [hcc]; simp [List.getD])
      have hw := HW.out j
      rw [List.length_take, Nat.min_eq_left (by omega)] at hw
      have HWK : Hid (wid ((xs.drop p).take j) < 256 ^ j) := hw
      have HE : Hid (wid ((xs.drop p).take (j + 1)) = wid ((xs.drop p).take j) + c * 256 ^ j) := e1
      have hj2 : (j : Int) < (1 : Int) := by omega
      have hpj : (p : Int) + (j : Int) < (L : Int) := by omega
      clear e1 hw hcc hlen
      go_wp2_with fail
      go_quiet (fail)
      go_wp2
      go_roundw
      case rel => exact ⟨j + 1, _, hlt, by go_num, by rw [HE.out, wide_or _ j c HWK.out (by omega) h256], rfl⟩
      case measure => simp [intOf]; omega
    · obtain rfl : j = 1 := by omega
      rw [HU.out]
      have o2 := o1.drewN q
      have oP2 := oP.drewN q
      have hfr2 := hfr.drewN q
      clear c0 c1 c2 hf d0 d1 d2 d3 dg o1 oP hfr HC HW HB
      generalize w1.drewN q = w2 at *
      obtain ⟨c0, c1, c2, hf⟩ := own3 o2
      obtain ⟨d0, d1, d2, d3, dg⟩ := own4 oP2
      go_wp2_with fail
      go_still_tail 10, (by kernel_rfl)
      have o3 : Own (w2.setCell ⟨r, 1, none⟩ (.int .i64 ((p : Int) + 1))).drew r #[.slice (some ⟨b, off, none⟩) L cap, .int .i64 ((p : Int) + 1), .int .i64 0] 84 := by simpa using (o2.set 1 (.int .i64 ((p : Int) + 1))).drew
      have oP3 := (oP2.other (i := 1) hr (.int .i64 ((p : Int) + 1))).drew
      have hfr3 := (hfr2.set (g := r) (.inr rfl) 1 (.int .i64 ((p : Int) + 1))).drew
      go_upto_region 12 with fail
      clear c0 c1 c2 hf d0 d1 d2 d3 dg o2 oP2 hfr2
      generalize (w2.setCell ⟨r, 1, none⟩ (.int .i64 ((p : Int) + 1))).drew = w3 at *
      obtain ⟨c0, c1, c2, hf⟩ := own3 o3
      obtain ⟨d0, d1, d2, d3, dg⟩ := own4 oP3
      have hbit : ((u : Int) / 128 == 1) = false := by rw [beq_eq_false_iff_ne]; omega
      go_wp2_with fail
      refine Calls.mono (HM.out _ w3 (by rw [HV.out])) ?_
      rintro e w4 ⟨rfl, b4⟩
      have o4 := o3.below b4
      have hfr4 := hfr3.trans (Fr.of b4)
      have o5 : Own (w4.setCell ⟨r, 2, none⟩ (.int .i64 120)) r #[.slice (some ⟨b, off, none⟩) L cap, .int .i64 ((p : Int) + 1), .int .i64 120] 84 := by simpa using o4.set 2 (.int .i64 120)
      have hfr5 := hfr4.set (g := r) (.inr rfl) 2 (.int .i64 120)
      clear c0 c1 c2 hf d0 d1 d2 d3 dg o3 oP3 hfr3 b4 HM
      obtain ⟨c0, c1, c2, hf⟩ := own3 o4
      clear o4 hfr4
      go_wp2
      go_ret
      exact ⟨rfl, ⟨_, o5, fun q => by cases q⟩, hfr5⟩
set_option maxHeartbeats 2000000 in
set_option maxRecDepth 100000 in
theorem rrnum_s1hi1 (k : Nm) (lo hi : Int) {w : World} {r b off L cap p : Nat} {xs : List Nat} (hk : k = ⟨1, true, lo, hi⟩) (h : RrAt w r (some ⟨b, off, none⟩) L cap (p, 0)) (hL : L = xs.length) (hb : ∀ c ∈ xs, c < 256) (hm : L ≤ 9223372036854775807)
    (hc : ∀ i, i < xs.length → w.cell? ⟨b, off + i, none⟩ = some (.int .u8 ((xs.getD i 0 : Nat) : Int))) (hbl : b < w.heap.size) (hp : p + 1 ≤ L) (u : Nat) (hu : wid ((xs.drop p).take 1) = u) (h2 : 256 ≤ 2 * u) (h3 : u < 256) (V : Int) (hV : V = (u : Int) - 256) (hmay : k.may V = true) :
    Calls Tryd.prog 42 #[ptr r, .agg (partC k).toArray] w fun e w' => e = .returned (.int .i64 V) ∧ RrRet r (some ⟨b, off, none⟩) L cap (p + 1, 0) w w' := by
  obtain ⟨p', ho, hp'⟩ := h
  have hpp : p' = (p : Int) := hp' rfl
  subst hpp
  have oP := Own.new w #[.int .i64 1, .int .i64 lo, .int .i64 hi, .bool true] 67
  have o1 : Own (w.alloc (.cells #[.int .i64 1, .int .i64 lo, .int .i64 hi, .bool true] 67)) r #[.slice (some ⟨b, off, none⟩) L cap, .int .i64 (p : Int), .int .i64 0] 84 := ho.alloc (.cells #[.int .i64 1, .int .i64 lo, .int .i64 hi, .bool true] 67)
  have hfr : Fr (fun b => b = r) w (w.alloc (.cells #[.int .i64 1, .int .i64 lo, .int .i64 hi, .bool true] 67)) := (Fr.refl _ _).alloc _
  have HC : Hid (∀ i, i < xs.length → (w.alloc (.cells #[.int .i64 1, .int .i64 lo, .int .i64 hi, .bool true] 67)).cell? ⟨b, off + i, none⟩ = some (.int .u8 ((xs.getD i 0 : Nat) : Int))) := fun i hii => ((new_below w (.cells #[.int .i64 1, .int .i64 lo, .int .i64 hi, .bool true] 67)).cell (p := ⟨b, off + i, none⟩) hbl).trans (hc i hii)
  have HB : Hid (∀ i, i < xs.length → xs.getD i 0 < 256) := by
    intro i hi
    exact hb _ (by simp [List.getD, hi])
  have HW : Hid (∀ j, wid ((xs.drop p).take j) < 256 ^ ((xs.drop p).take j).length) := fun j => wid_lt _ fun c hc => hb c (List.mem_of_mem_drop (List.mem_of_mem_take hc))
  have HL : Hid (L = xs.length) := hL
  have HU : Hid (wid ((xs.drop p).take 1) = u) := hu
  have HV : Hid (V = (u : Int) - 256) := hV
  have HM : Hid (∀ n W, n = V → Calls Tryd.prog 54 #[.agg #[.int .i64 1, .int .i64 lo, .int .i64 hi, .bool true], .int .i64 n] W fun e w' => e = .returned (.bool true) ∧ Below W.heap.size W w') := fun n W e => by
    have := rwithin_as k n W
    rw [e, hmay, hk] at this
    rw [e]
    exact this
  rw [hk]
  have hpL : (p : Int) ≤ (L : Int) := by omega
  have hsz : (1 : Int) ≤ (L : Int) - (p : Int) := by omega
  have hr : w.heap.size ≠ r := by have := ho.lt; omega
  clear hc hL hb hu hV hmay hk hp' ho hbl
  unfold partC
  go_enter Tryd.func42, Tryd.ntmps42
  go_upto_region 1 with fail
  generalize w.alloc (.cells #[.int .i64 1, .int .i64 lo, .int .i64 hi, .bool true] 67) = w1 at *
  obtain ⟨c0, c1, c2, hf⟩ := own3 o1
  obtain ⟨d0, d1, d2, d3, dg⟩ := own4 oP
  go_wp2_with fail
  go_quiet (fail)
  go_wp2_with fail
  go_loopw [5, 6] (fun n i wr => ∃ j q : Nat, j ≤ 1 ∧ i = .int .i64 (j : Int) ∧ n = .int .u64 ((wid ((xs.drop p).take j) : Nat) : Int) ∧ wr = w1.drewN q) (fun _ i _ => 1 - (intOf i).toNat)
  case atStart => exact ⟨0, nq, Nat.zero_le _, rfl, rfl, rfl⟩
  case round =>
    obtain ⟨j, q, hj, rfl, rfl, rfl⟩ := hrel
    by_cases hlt : j < 1
    · obtain ⟨c, hcc⟩ : ∃ c, c = xs.getD (p + j) 0 := ⟨_, rfl⟩
      have hcell : w1.cell? ⟨b, off + (p + j), none⟩ = some (.int .u8 (c : Int)) := by rw [hcc]; exact HC.out (p + j) (by rw [← HL.out]; omega)
      have h256 : c < 256 := by rw [hcc]; exact HB.out (p + j) (by rw [← HL.out]; omega)
      have hlen : j < (xs.drop p).length := by have := HL.out; simp; omega
      have e1 : wid ((xs.drop p).take (j + 1)) = wid ((xs.drop p).take j) + c * 256 ^ j := wid_step _ j c hlen (by rw [hcc]; simp [List.getD])
      have hw := HW.out j
      rw [List.length_take, Nat.min_eq_left (by omega)] at hw
      have HWK : Hid (wid ((xs.drop p).take j) < 256 ^ j) := hw
      have HE : Hid (wid ((xs.drop p).take (j + 1)) = wid ((xs.drop p).take j) + c * 256 ^ j) := e1
      have hj2 : (j : Int) < (1 : Int) := by omega
      have hpj : (p : Int) + (j : Int) < (L : Int) := by omega
      clear e1 hw hcc hlen
      go_wp2_with fail
      go_quiet (fail)
      go_wp2
      go_roundw
      case rel => exact ⟨j + 1, _, hlt, by go_num, by rw [HE.out, wide_or _ j c HWK.out (by omega) h256], rfl⟩
      case measure => simp [intOf]; omega
    · obtain rfl : j = 1 := by omega
      rw [HU.out]
      have o2 := o1.drewN q
      have oP2 := oP.drewN q
      have hfr2 := hfr.drewN q
      clear c0 c1 c2 hf d0 d1 d2 d3 dg o1 oP hfr HC HW HB
      generalize w1.drewN q = w2 at *
      obtain ⟨c0, c1, c2, hf⟩ := own3 o2
      obtain ⟨d0, d1, d2, d3, dg⟩ := own4 oP2
      go_wp2_with fail
      go_still_tail 10, (by kernel_rfl)
      have o3 : Own (w2.setCell ⟨r, 1, none⟩ (.int .i64 ((p : Int) + 1))).drew r #[.slice (some ⟨b, off, none⟩) L cap, .int .i64 ((p : Int) + 1), .int .i64 0] 84 := by simpa using (o2.set 1 (.int .i64 ((p : Int) + 1))).drew
      have oP3 := (oP2.other (i := 1) hr (.int .i64 ((p : Int) + 1))).drew
      have hfr3 := (hfr2.set (g := r) (.inr rfl) 1 (.int .i64 ((p : Int) + 1))).drew
      go_upto_region 12 with fail
      clear c0 c1 c2 hf d0 d1 d2 d3 dg o2 oP2 hfr2
      generalize (w2.setCell ⟨r, 1, none⟩ (.int .i64 ((p : Int) + 1))).drew = w3 at *
      obtain ⟨c0, c1, c2, hf⟩ := own3 o3
      obtain ⟨d0, d1, d2, d3, dg⟩ := own4 oP3
      have hbit : ((u : Int) / 128 == 1) = true := by rw [beq_iff_eq]; omega
      go_wp2_with fail
      refine Calls.mono (HM.out _ w3 (by rw [HV.out]; simp only [IntKind.wrap_u64]; unfold wrap64; omega)) ?_
      rintro e w4 ⟨rfl, b4⟩
      have o4 := o3.below b4
      have hfr4 := hfr3.trans (Fr.of b4)
      clear c0 c1 c2 hf d0 d1 d2 d3 dg o3 oP3 hfr3 b4 HM
      go_wp2
      go_ret
      exact ⟨ret_int (by rw [HV.out]; simp only [IntKind.wrap_u64]; unfold wrap64; omega), ⟨_, o4, fun _ => by simp⟩, hfr4⟩
set_option maxHeartbeats 2000000 in
set_option maxRecDepth 100000 in
theorem rrnum_s1hi0 (k : Nm) (lo hi : Int) {w : World} {r b off L cap p : Nat} {xs : List Nat} (hk : k = ⟨1, true, lo, hi⟩) (h : RrAt w r (some ⟨b, off, none⟩) L cap (p, 0)) (hL : L = xs.length) (hb : ∀ c ∈ xs, c < 256) (hm : L ≤ 9223372036854775807)
    (hc : ∀ i, i < xs.length → w.cell? ⟨b, off + i, none⟩ = some (.int .u8 ((xs.getD i 0 : Nat) : Int))) (hbl : b < w.heap.size) (hp : p + 1 ≤ L) (u : Nat) (hu : wid ((xs.drop p).take 1) = u) (h2 : 256 ≤ 2 * u) (h3 : u < 256) (V : Int) (hV : V = (u : Int) - 256) (hmay : k.may V = false) :
    Calls Tryd.prog 42 #[ptr r, .agg (partC k).toArray] w fun e w' => e = .returned (.int .i64 0) ∧ RrRet r (some ⟨b, off, none⟩) L cap (p, 120) w w' := by
  obtain ⟨p', ho, hp'⟩ := h
  have hpp : p' = (p : Int) := hp' rfl
  subst hpp
  have oP := Own.new w #[.int .i64 1, .int .i64 lo, .int .i64 hi, .bool true] 67
  have o1 : Own (w.alloc (.cells #[.int .i64 1, .int .i64 lo, .int .i64 hi, .bool true] 67)) r #[.slice (some ⟨b, off, none⟩) L cap, .int .i64 (p : Int), .int .i64 0] 84 := ho.alloc (.cells #[.int .i64 1, .int .i64 lo, .int .i64 hi, .bool true] 67)
  have hfr : Fr (fun b => b = r) w (w.alloc (.cells #[.int .i64 1, .int .i64 lo, .int .i64 hi, .bool true] 67)) := (Fr.refl _ _).alloc _
  have HC : Hid (∀ i, i < xs.length → (w.alloc (.cells #[.int .i64 1, .int .i64 lo, .int .i64 hi, .bool true] 67)).cell? ⟨b, off + i, none⟩ = some (.int .u8 ((xs.getD i 0 : Nat) : Int))) := fun i hii => ((new_below w (.cells #[.int .i64 1, .int .i64 lo, .int .i64 hi, .bool true] 67)).cell (p := ⟨b, off + i, none⟩) hbl).trans (hc i hii)
  have HB : Hid (∀ i, i < xs.length → xs.getD i 0 < 256) := by
    intro i hi
    exact hb _ (by simp [List.getD, hi])
  have HW : Hid (∀ j, wid ((xs.drop p).take j) < 256 ^ ((xs.drop p).take j).length) := fun j => wid_lt _ fun c hc => hb c (List.mem_of_mem_drop (List.mem_of_mem_take hc))
  have HL : Hid (L = xs.length) := hL
  have HU : Hid (wid ((xs.drop p).take 1) = u) := hu
  have HV : Hid (V = (u : Int) - 256) := hV
  have HM : Hid (∀ n W, n = V → Calls Tryd.prog 54 #[.agg #[.int .i64 1, .int .i64 lo, .int .i64 hi, .bool true], .int .i64 n] W fun e w' => e = .returned (.bool false) ∧ Below W.heap.size W w') := fun n W e => by
    have := rwithin_as k n W
    rw [e, hmay, hk] at this
    rw [e]
    exact this
  rw [hk]
  have hpL : (p : Int) ≤ (L : Int) := by omega
  have hsz : (1 : Int) ≤ (L : Int) - (p : Int) := by omega
  have hr : w.heap.size ≠ r := by have := ho.lt; omega
  clear hc hL hb hu hV hmay hk hp' ho hbl
  unfold partC
  go_enter Tryd.func42, Tryd.ntmps42
  go_upto_region 1 with fail
  generalize w.alloc (.cells #[.int .i64 1, .int .i64 lo, .int .i64 hi, .bool true] 67) = w1 at *
  obtain ⟨c0, c1, c2, hf⟩ := own3 o1
  obtain ⟨d0, d1, d2, d3, dg⟩ := own4 oP
  go_wp2_with fail
  go_quiet (fail)
  go_wp2_with fail
  go_loopw [5, 6] (fun n i wr => ∃ j q : Nat, j ≤ 1 ∧ i = .int .i64 (j : Int) ∧ n = .int .u64 ((wid ((xs.drop p).take j) : Nat) : Int) ∧ wr = w1.drewN q) (fun _ i _ => 1 - (intOf i).toNat)
  case atStart => exact ⟨0, nq, Nat.zero_le _, rfl, rfl, rfl⟩
  case round =>
    obtain ⟨j, q, hj, rfl, rfl, rfl⟩ := hrel
    by_cases hlt : j < 1
    · obtain ⟨c, hcc⟩ : ∃ c, c = xs.getD (p + j) 0 := ⟨_, rfl⟩
      have hcell : w1.cell? ⟨b, off + (p + j), none⟩ = some (.int .u8 (c : Int)) := by rw [hcc]; exact HC.out (p + j) (by rw [← HL.out]; omega)
      have h256 : c < 256 := by rw [hcc]; exact HB.out (p + j) (by rw [← HL.out]; omega)
      have hlen : j < (xs.drop p).length := by have := HL.out; simp; omega
      have e1 : wid ((xs.drop p).take (j + 1)) = wid ((xs.drop p).take j) + c * 256 ^ j := wid_step _ j c hlen (by rw [hcc]; simp [List.getD])
      have hw := HW.out j
      rw [List.length_take, Nat.min_eq_left (by omega)] at hw
      have HWK : Hid (wid ((xs.drop p).take j) < 256 ^ j) := hw
      have HE : Hid (wid ((xs.drop p).take (j + 1)) = wid ((xs.drop p).take j) + c * 256 ^ j) := e1
      have hj2 : (j : Int) < (1 : Int) := by omega
      have hpj : (p : Int) + (j : Int) < (L : Int) := by omega
      clear e1 hw hcc hlen
      go_wp2_with fail
      go_quiet (fail)
      go_wp2
      go_roundw
      case rel => exact ⟨j + 1, _, hlt, by go_num, by rw [HE.out, wide_or _ j c HWK.out (by omega) h256], rfl⟩
      case measure => simp [intOf]; omega
    · obtain rfl : j = 1 := by omega
      rw [HU.out]
      have o2 := o1.drewN q
      have oP2 := oP.drewN q
      have hfr2 := hfr.drewN q
      clear c0 c1 c2 hf d0 d1 d2 d3 dg o1 oP hfr HC HW HB
      generalize w1.drewN q = w2 at *
      obtain ⟨c0, c1, c2, hf⟩ := own3 o2
      obtain ⟨d0, d1, d2, d3, dg⟩ := own4 oP2
      go_wp2_with fail
      go_still_tail 10, (by kernel_rfl)
      have o3 : Own (w2.setCell ⟨r, 1, none⟩ (.int .i64 ((p : Int) + 1))).drew r #[.slice (some ⟨b, off, none⟩) L cap, .int .i64 ((p : Int) + 1), .int .i64 0] 84 := by simpa using (o2.set 1 (.int .i64 ((p : Int) + 1))).drew
      have oP3 := (oP2.other (i := 1) hr (.int .i64 ((p : Int) + 1))).drew
      have hfr3 := (hfr2.set (g := r) (.inr rfl) 1 (.int .i64 ((p : Int) + 1))).drew
      go_upto_region 12 with fail
      clear c0 c1 c2 hf d0 d1 d2 d3 dg o2 oP2 hfr2
      generalize (w2.setCell ⟨r, 1, none⟩ (.int .i64 ((p : Int) + 1))).drew = w3 at *
      obtain ⟨c0, c1, c2, hf⟩ := own3 o3
      obtain ⟨d0, d1, d2, d3, dg⟩ := own4 oP3
      have hbit : ((u : Int) / 128 == 1) = true := by rw [beq_iff_eq]; omega
      go_wp2_with fail
      refine Calls.mono (HM.out _ w3 (by rw [HV.out]; simp only [IntKind.wrap_u64]; unfold wrap64; omega)) ?_
      rintro e w4 ⟨rfl, b4⟩
      have o4 := o3.below b4
      have hfr4 := hfr3.trans (Fr.of b4)
      have o5 : Own (w4.setCell ⟨r, 2, none⟩ (.int .i64 120)) r #[.slice (some ⟨b, off, none⟩) L cap, .int .i64 ((p : Int) + 1), .int .i64 120] 84 := by simpa using o4.set 2 (.int .i64 120)
      have hfr5 := hfr4.set (g := r) (.inr rfl) 2 (.int .i64 120)
      clear c0 c1 c2 hf d0 d1 d2 d3 dg o3 oP3 hfr3 b4 HM
      obtain ⟨c0, c1, c2, hf⟩ := own3 o4
      clear o4 hfr4
      go_wp2
      go_ret
      exact ⟨rfl, ⟨_, o5, fun q => by cases q⟩, hfr5⟩
set_option maxHeartbeats 2000000 in
set_option maxRecDepth 100000 in
theorem rrnum_s4lo1 (k : Nm) (lo hi : Int) {w : World} {r b off L cap p : Nat} {xs : List Nat} (hk : k = ⟨4, true, lo, hi⟩) (h : RrAt w r (some ⟨b, off, none⟩) L cap (p, 0)) (hL : L = xs.length) (hb : ∀ c ∈ xs, c < 256) (hm : L ≤ 9223372036854775807)
    (hc : ∀ i, i < xs.length → w.cell? ⟨b, off + i, none⟩ = some (.int .u8 ((xs.getD i 0 : Nat) : Int))) (hbl : b < w.heap.size) (hp : p + 4 ≤ L) (u : Nat) (hu : wid ((xs.drop p).take 4) = u) (h2 : 2 * u < 4294967296) (V : Int) (hV : V = (u : Int)) (hmay : k.may V = true) :
    Calls Tryd.prog 42 #[ptr r, .agg (partC k).toArray] w fun e w' => e = .returned (.int .i64 V) ∧ RrRet r (some ⟨b, off, none⟩) L cap (p + 4, 0) w w' := by
  obtain ⟨p', ho, hp'⟩ := h
  have hpp : p' = (p : Int) := hp' rfl
  subst hpp
  have oP := Own.new w #[.int .i64 4, .int .i64 lo, .int .i64 hi, .bool true] 67
  have o1 : Own (w.alloc (.cells #[.int .i64 4, .int .i64 lo, .int .i64 hi, .bool true] 67)) r #[.slice (some ⟨b, off, none⟩) L cap, .int .i64 (p : Int), .int .i64 0] 84 := ho.alloc (.cells #[.int .i64 4, .int .i64 lo, .int .i64 hi, .bool true] 67)
  have hfr : Fr (fun b => b = r) w (w.alloc (.cells #[.int .i64 4, .int .i64 lo, .int .i64 hi, .bool true] 67)) := (Fr.refl _ _).alloc _
  have HC : Hid (∀ i, i < xs.length → (w.alloc (.cells #[.int .i64 4, .int .i64 lo, .int .i64 hi, .bool true] 67)).cell? ⟨b, off + i, none⟩ = some (.int .u8 ((xs.getD i 0 : Nat) : Int))) := fun i hii => ((new_below w (.cells #[.int .i64 4, .int .i64 lo, .int .i64 hi, .bool true] 67)).cell (p := ⟨b, off + i, none⟩) hbl).trans (hc i hii)
  have HB : Hid (∀ i, i < xs.length → xs.getD i 0 < 256) := by
    intro i hi
    exact hb _ (by simp [List.getD, hi])
  have HW : Hid (∀ j, wid ((xs.drop p).take j) < 256 ^ ((xs.drop p).take j).length) := fun j => wid_lt _ fun c hc => hb c (List.mem_of_mem_drop (List.mem_of_mem_take hc))
  have HL : Hid (L = xs.length) := hL
  have HU : Hid (wid ((xs.drop p).take 4) = u) := hu
  have HV : Hid (V = (u : Int)) := hV
  have HM : Hid (∀ n W, n = V → Calls Tryd.prog 54 #[.agg #[.int .i64 4, .int .i64 lo, .int .i64 hi, .bool true], .int .i64 n] W fun e w' => e = .returned (.bool true) ∧ Below W.heap.size W w') := fun n W e => by
    have := rwithin_as k n W
    rw [e, hmay, hk] at this
    rw [e]
    exact this
  rw [hk]
  have hpL : (p : Int) ≤ (L : Int) := by omega
  have hsz : (4 : Int) ≤ (L : Int) - (p : Int) := by omega
  have hr : w.heap.size ≠ r := by have := ho.lt; omega
  clear hc hL hb hu hV hmay hk hp' ho hbl
  unfold partC
  go_enter Tryd.func42, Tryd.ntmps42
  go_upto_region 1 with fail
  generalize w.alloc (.cells #[.int .i64 4, .int .i64 lo, .int .i64 hi, .bool true] 67) = w1 at *
  obtain ⟨c0, c1, c2, hf⟩ := own3 o1
  obtain ⟨d0, d1, d2, d3, dg⟩ := own4 oP
  go_wp2_with fail
  go_quiet (fail)
  go_wp2_with fail
  go_loopw [5, 6] (fun n i wr => ∃ j q : Nat, j ≤ 4 ∧ i = .int .i64 (j : Int) ∧ n = .int .u64 ((wid ((xs.drop p).take j) : Nat) : Int) ∧ wr = w1.drewN q) (fun _ i _ => 4 - (intOf i).toNat)
  case atStart => exact ⟨0, nq, Nat.zero_le _, rfl, rfl, rfl⟩
  case round =>
    obtain ⟨j, q, hj, rfl, rfl, rfl⟩ := hrel
    by_cases hlt : j < 4
    · obtain ⟨c, hcc⟩ : ∃ c, c = xs.getD (p + j) 0 := ⟨_, rfl⟩
      have hcell : w1.cell? ⟨b, off + (p + j), none⟩ = some (.int .u8 (c : Int)) := by rw [hcc]; exact HC.out (p + j) (by rw [← HL.out]; omega)
      have h256 : c < 256 := by rw [hcc]; exact HB.out (p + j) (by rw [← HL.out]; omega)
      have hlen : j < (xs.drop p).length := by have := HL.out; simp; omega
      have e1 : wid ((xs.drop p).take (j + 1)) = wid ((xs.drop p).take j) + c * 256 ^ j := wid_step _ j c hlen (by rw [hcc]; simp [List.getD])
      have hw := HW.out j
      rw [List.length_take, Nat.min_eq_left (by omega)] at hw
      have HWK : Hid (wid ((xs.drop p).take j) < 256 ^ j) := hw
      have HE : Hid (wid ((xs.drop p).take (j + 1)) = wid ((xs.drop p).take j) + c * 256 ^ j) := e1
      have hj2 : (j : Int) < (4 : Int) := by omega
      have hpj : (p : Int) + (j : Int) < (L : Int) := by omega
      clear e1 hw hcc hlen
      go_wp2_with fail
      go_quiet (fail)
      go_wp2
      go_roundw
      case rel => exact ⟨j + 1, _, hlt, by go_num, by rw [HE.out, wide_or _ j c HWK.out (by omega) h256], rfl⟩
      case measure => simp [intOf]; omega
    · obtain rfl : j = 4 := by omega
      rw [HU.out]
      have o2 := o1.drewN q
      have oP2 := oP.drewN q
      have hfr2 := hfr.drewN q
      clear c0 c1 c2 hf d0 d1 d2 d3 dg o1 oP hfr HC HW HB
      generalize w1.drewN q = w2 at *
      obtain ⟨c0, c1, c2, hf⟩ := own3 o2
      obtain ⟨d0, d1, d2, d3, dg⟩ := own4 oP2
      go_wp2_with fail
      go_still_tail 10, (by kernel_rfl)
      have o3 : Own (w2.setCell ⟨r, 1, none⟩ (.int .i64 ((p : Int) + 4))).drew r #[.slice (some ⟨b, off, none⟩) L cap, .int .i64 ((p : Int) + 4), .int .i64 0] 84 := by simpa using (o2.set 1 (.int .i64 ((p : Int) + 4))).drew
      have oP3 := (oP2.other (i := 1) hr (.int .i64 ((p : Int) + 4))).drew
      have hfr3 := (hfr2.set (g := r) (.inr rfl) 1 (.int .i64 ((p : Int) + 4))).drew
      go_upto_region 12 with fail
      clear c0 c1 c2 hf d0 d1 d2 d3 dg o2 oP2 hfr2
      generalize (w2.setCell ⟨r, 1, none⟩ (.int .i64 ((p : Int) + 4))).drew = w3 at *
      obtain ⟨c0, c1, c2, hf⟩ := own3 o3
      obtain ⟨d0, d1, d2, d3, dg⟩ := own4 oP3
      have hbit : ((u : Int) / 2147483648 == 1) = false := by rw [beq_eq_false_iff_ne]; omega
      go_wp2_with fail
      refine Calls.mono (HM.out _ w3 (by rw [HV.out])) ?_
      rintro e w4 ⟨rfl, b4⟩
      have o4 := o3.below b4
      have hfr4 := hfr3.trans (Fr.of b4)
      clear c0 c1 c2 hf d0 d1 d2 d3 dg o3 oP3 hfr3 b4 HM
      go_wp2
      go_ret
      exact ⟨ret_int (by rw [HV.out]), ⟨_, o4, fun _ => by simp⟩, hfr4⟩
set_option maxHeartbeats 2000000 in
set_option maxRecDepth 100000 in
theorem rrnum_s4lo0 (k : Nm) (lo hi : Int) {w : World} {r b off L cap p : Nat} {xs : List Nat} (hk : k = ⟨4, true, lo, hi⟩) (h : RrAt w r (some ⟨b, off, none⟩) L cap (p, 0)) (hL : L = xs.length) (hb : ∀ c ∈ xs, c < 256) (hm : L ≤ 9223372036854775807)
    (hc : ∀ i, i < xs.length → w.cell? ⟨b, off + i, none⟩ = some (.int .u8 ((xs.getD i 0 : Nat) : Int))) (hbl : b < w.heap.size) (hp : p + 4 ≤ L) (u : Nat) (hu : wid ((xs.drop p).take 4) = u) (h2 : 2 * u < 4294967296) (V : Int) (hV : V = (u : Int)) (hmay : k.may V = false) :
    Calls Tryd.prog 42 #[ptr r, .agg (partC k).toArray] w fun e w' => e = .returned (.int .i64 0) ∧ RrRet r (some ⟨b, off, none⟩) L cap (p, 120) w w' := by
  obtain ⟨p', ho, hp'⟩ := h
  have hpp : p' = (p : Int) := hp' rfl
  subst hpp
  have oP := Own.new w #[.int .i64 4, .int .i64 lo, .int .i64 hi, .bool true] 67
  have o1 : Own (w.alloc (.cells #[.int .i64 4, .int .i64 lo, .int .i64 hi, .bool true] 67)) r #[.slice (some ⟨b, off, none⟩) L cap, .int .i64 (p : Int), .int .i64 0] 84 := ho.alloc (.cells #[.int .i64 4, .int .i64 lo, .int .i64 hi, .bool true] 67)
  have hfr : Fr (fun b => b = r) w (w.alloc (.cells #[.int .i64 4, .int .i64 lo, .int .i64 hi, .bool true] 67)) := (Fr.refl _ _).alloc _
  have HC : Hid (∀ i, i < xs.length → (w.alloc (.cells #[.int .i64 4, .int .i64 lo, .int .i64 hi, .bool true] 67)).cell? ⟨b, off + i, none⟩ = some (.int .u8 ((xs.getD i 0 : Nat) : Int))) := fun i hii => ((new_below w (.cells #[.int .i64 4, .int .i64 lo, .int .i64 hi, .bool true] 67)).cell (p := ⟨b, off + i, none⟩) hbl).trans (hc i hii)
  have HB : Hid (∀ i, i < xs.length → xs.getD i 0 < 256) := by
    intro i hi
    exact hb _ (by simp [List.getD, hi])
  have HW : Hid (∀ j, wid ((xs.drop p).take j) < 256 ^ ((xs.drop p).take j).length) := fun j => wid_lt _ fun c hc => hb c (List.mem_of_mem_drop (List.mem_of_mem_take hc))
  have HL : Hid (L = xs.length) := hL
  have HU : Hid (wid ((xs.drop p).take 4) = u) := hu
  have HV : Hid (V = (u : Int)) := hV
  have HM : Hid (∀ n W, n = V → Calls Tryd.prog 54 #[.agg #[.int .i64 4, .int .i64 lo, .int .i64 hi, .bool true], .int .i64 n] W fun e w' => e = .returned (.bool false) ∧ Below W.heap.size W w') := fun n W e => by
    have := rwithin_as k n W
    rw [e, hmay, hk] at this
    rw [e]
    exact this
  rw [hk]
  have hpL : (p : Int) ≤ (L : Int) := by omega
  have hsz : (4 : Int) ≤ (L : Int) - (p : Int) := by omega
  have hr : w.heap.size ≠ r := by have := ho.lt; omega
  clear hc hL hb hu hV hmay hk hp' ho hbl
  unfold partC
  go_enter Tryd.func42, Tryd.ntmps42
  go_upto_region 1 with fail
  generalize w.alloc (.cells #[.int .i64 4, .int .i64 lo, .int .i64 hi, .bool true] 67) = w1 at *
  obtain ⟨c0, c1, c2, hf⟩ := own3 o1
  obtain ⟨d0, d1, d2, d3, dg⟩ := own4 oP
  go_wp2_with fail
  go_quiet (fail)
  go_wp2_with fail
  go_loopw [5, 6] (fun n i wr => ∃ j q : Nat, j ≤ 4 ∧ i = .int .i64 (j : Int) ∧ n = .int .u64 ((wid ((xs.drop p).take j) : Nat) : Int) ∧ wr = w1.drewN q) (fun _ i _ => 4 - (intOf i).toNat)
  case atStart => exact ⟨0, nq, Nat.zero_le _, rfl, rfl, rfl⟩
  case round =>
    obtain ⟨j, q, hj, rfl, rfl, rfl⟩ := hrel
    by_cases hlt : j < 4
    · obtain ⟨c, hcc⟩ : ∃ c, c = xs.getD (p + j) 0 := ⟨_, rfl⟩
      have hcell : w1.cell? ⟨b, off + (p + j), none⟩ = some (.int .u8 (c : Int)) := by rw [hcc]; exact HC.out (p + j) (by rw [← HL.out]; omega)
      have h256 : c < 256 := by rw [hcc]; exact HB.out (p + j) (by rw [← HL.out]; omega)
      have hlen : j < (xs.drop p).length := by have := HL.out; simp; omega
      have e1 : wid ((xs.drop p).take (j + 1)) = wid ((xs.drop p).take j) + c * 256 ^ j := wid_step _ j c hlen (by rw [hcc]; simp [List.getD])
      have hw := HW.out j
      rw [List.length_take, Nat.min_eq_left (by omega)] at hw
      have HWK : Hid (wid ((xs.drop p).take j) < 256 ^ j) := hw
      have HE : Hid (wid ((xs.drop p).take (j + 1)) = wid ((xs.drop p).take j) + c * 256 ^ j) := e1
      have hj2 : (j : Int) < (4 : Int) := by omega
      have hpj : (p : Int) + (j : Int) < (L : Int) := by omega
      clear e1 hw hcc hlen
      go_wp2_with fail
      go_quiet (fail)
      go_wp2
      go_roundw
      case rel => exact ⟨j + 1, _, hlt, by go_num, by rw [HE.out, wide_or _ j c HWK.out (by omega) h256], rfl⟩
      case measure => simp [intOf]; omega
    · obtain rfl : j = 4 := by omega
      rw [HU.out]
      have o2 := o1.drewN q
      have oP2 := oP.drewN q
      have hfr2 := hfr.drewN q
      clear c0 c1 c2 hf d0 d1 d2 d3 dg o1 oP hfr HC HW HB
      generalize w1.drewN q = w2 at *
      obtain ⟨c0, c1, c2, hf⟩ := own3 o2
      obtain ⟨d0, d1, d2, d3, dg⟩ := own4 oP2
      go_wp2_with fail
      go_still_tail 10, (by kernel_rfl)
      have o3 : Own (w2.setCell ⟨r, 1, none⟩ (.int .i64 ((p : Int) + 4))).drew r #[.slice (some ⟨b, off, none⟩) L cap, .int .i64 ((p : Int) + 4), .int .i64 0] 84 := by simpa using (o2.set 1 (.int .i64 ((p : Int) + 4))).drew
      have oP3 := (oP2.other (i := 1) hr (.int .i64 ((p : Int) + 4))).drew
      have hfr3 := (hfr2.set (g := r) (.inr rfl) 1 (.int .i64 ((p : Int) + 4))).drew
      go_upto_region 12 with fail
      clear c0 c1 c2 hf d0 d1 d2 d3 dg o2 oP2 hfr2
      generalize (w2.setCell ⟨r, 1, none⟩ (.int .i64 ((p : Int) + 4))).drew = w3 at *
      obtain ⟨c0, c1, c2, hf⟩ := own3 o3
      obtain ⟨d0, d1, d2, d3, dg⟩ := own4 oP3
      have hbit : ((u : Int) / 2147483648 == 1) = false := by rw [beq_eq_false_iff_ne]; omega
      go_wp2_with fail
      refine Calls.mono (HM.out _ w3 (by rw [HV.out])) ?_
      rintro e w4 ⟨rfl, b4⟩
      have o4 := o3.below b4
      have hfr4 := hfr3.trans (Fr.of b4)
      have o5 : Own (w4.setCell ⟨r, 2, none⟩ (.int .i64 120)) r #[.slice (some ⟨b, off, none⟩) L cap, .int .i64 ((p : Int) + 4), .int .i64 120] 84 := by simpa using o4.set 2 (.int .i64 120)
      have hfr5 := hfr4.set (g := r) (.inr rfl) 2 (.int .i64 120)
      clear c0 c1 c2 hf d0 d1 d2 d3 dg o3 oP3 hfr3 b4 HM
      obtain ⟨c0, c1, c2, hf⟩ := own3 o4
      clear o4 hfr4
      go_wp2
      go_ret
      exact ⟨rfl, ⟨_, o5, fun q => by cases q⟩, hfr5⟩
set_option maxHeartbeats 2000000 in
set_option maxRecDepth 100000 in
theorem rrnum_s4hi1 (k : Nm) (lo hi : Int) {w : World} {r b off L cap p : Nat} {xs : List Nat} (hk : k = ⟨4, true, lo, hi⟩) (h : RrAt w r (some ⟨b, off, none⟩) L cap (p, 0)) (hL : L = xs.length) (hb : ∀ c ∈ xs, c < 256) (hm : L ≤ 9223372036854775807)
    (hc : ∀ i, i < xs.length → w.cell? ⟨b, off + i, none⟩ = some (.int .u8 ((xs.getD i 0 : Nat) : Int))) (hbl : b < w.heap.size) (hp : p + 4 ≤ L) (u : Nat) (hu : wid ((xs.drop p).take 4) = u) (h2 : 4294967296 ≤ 2 * u) (h3 : u < 4294967296) (V : Int) (hV : V = (u : Int) - 4294967296) (hmay : k.may V = true) :
    Calls Tryd.prog 42 #[ptr r, .agg (partC k).toArray] w fun e w' => e = .returned (.int .i64 V) ∧ RrRet r (some ⟨b, off, none⟩) L cap (p + 4, 0) w w' := by
  obtain ⟨p', ho, hp'⟩ := h
  have hpp : p' = (p : Int) := hp' rfl
  subst hpp
  have oP := Own.new w #[.int .i64 4, .int .i64 lo, .int .i64 hi, .bool true] 67
  have o1 : Own (w.alloc (.cells #[.int .i64 4, .int .i64 lo, .int .i64 hi, .bool true] 67)) r #[.slice (some ⟨b, off, none⟩) L cap, .int .i64 (p : Int), .int .i64 0] 84 := ho.alloc (.cells #[.int .i64 4, .int .i64 lo, .int .i64 hi, .bool true] 67)
  have hfr : Fr (fun b => b = r) w (w.alloc (.cells #[.int .i64 4, .int .i64 lo, .int .i64 hi, .bool true] 67)) := (Fr.refl _ _).alloc _
  have HC : Hid (∀ i, i < xs.length → (w.alloc (.cells #[.int .i64 4, .int .i64 lo, .int .i64 hi, .bool true] 67)).cell? ⟨b, off + i, none⟩ = some (.int .u8 ((xs.getD i 0 : Nat) : Int))) := fun i hii => ((new_below w (.cells #[.int .i64 4, .int .i64 lo, .int .i64 hi, .bool true] 67)).cell (p := ⟨b, off + i, none⟩) hbl).trans (hc i hii)
  have HB : Hid (∀ i, i < xs.length → xs.getD i 0 < 256) := by
    intro i hi
    exact hb _ (by simp [List.getD, hi])
  have HW : Hid (∀ j, wid ((xs.drop p).take j) < 256 ^ ((xs.drop p).take j).length) := fun j => wid_lt _ fun c hc => hb c (List.mem_of_mem_drop (List.mem_of_mem_take hc))
  have HL : Hid (L = xs.length) := hL
  have HU : Hid (wid ((xs.drop p).take 4) = u) := hu
  have HV : Hid (V = (u : Int) - 4294967296) := hV
  have HM : Hid (∀ n W, n = V → Calls Tryd.prog 54 #[.agg #[.int .i64 4, .int .i64 lo, .int .i64 hi, .bool true], .int .i64 n] W fun e w' => e = .returned (.bool true) ∧ Below W.heap.size W w') := fun n W e => by
    have := rwithin_as k n W
    rw [e, hmay, hk] at this
    rw [e]
    exact this
  rw [hk]
  have hpL : (p : Int) ≤ (L : Int) := by omega
  have hsz : (4 : Int) ≤ (L : Int) - (p : Int) := by omega
  have hr : w.heap.size ≠ r := by have := ho.lt; omega
  clear hc hL hb hu hV hmay hk hp' ho hbl
  unfold partC
  go_enter Tryd.func42, Tryd.ntmps42
  go_upto_region 1 with fail
  generalize w.alloc (.cells #[.int .i64 4, .int .i64 lo, .int .i64 hi, .bool true] 67) = w1 at *
  obtain ⟨c0, c1, c2, hf⟩ := own3 o1
  obtain ⟨d0, d1, d2, d3, dg⟩ := own4 oP
  go_wp2_with fail
  go_quiet (fail)
  go_wp2_with fail
  go_loopw [5, 6] (fun n i wr => ∃ j q : Nat, j ≤ 4 ∧ i = .int .i64 (j : Int) ∧ n = .int .u64 ((wid ((xs.drop p).take j) : Nat) : Int) ∧ wr = w1.drewN q) (fun _ i _ => 4 - (intOf i).toNat)
  case atStart => exact ⟨0, nq, Nat.zero_le _, rfl, rfl, rfl⟩
  case round =>
    obtain ⟨j, q, hj, rfl, rfl, rfl⟩ := hrel
    by_cases hlt : j < 4
    · obtain ⟨c, hcc⟩ : ∃ c, c = xs.getD (p + j) 0 := ⟨_, rfl⟩
      have hcell : w1.cell? ⟨b, off + (p + j), none⟩ = some (.int .u8 (c : Int)) := by rw [hcc]; exact HC.out (p + j) (by rw [← HL.out]; omega)
      have h256 : c < 256 := by rw [hcc]; exact HB.out (p + j) (by rw [← HL.out]; omega)
      have hlen : j < (xs.drop p).length := by have := HL.out; simp; omega
      have e1 : wid ((xs.drop p).take (j + 1)) = wid ((xs.drop p).take j) + c * 256 ^ j := wid_step _ j c hlen (by rw [hcc]; simp [List.getD])
      have hw := HW.out j
      rw [List.length_take, Nat.min_eq_left (by omega)] at hw
      have HWK : Hid (wid ((xs.drop p).take j) < 256 ^ j) := hw
      have HE : Hid (wid ((xs.drop p).take (j + 1)) = wid ((xs.drop p).take j) + c * 256 ^ j) := e1
      have hj2 : (j : Int) < (4 : Int) := by omega
      have hpj : (p : Int) + (j : Int) < (L : Int) := by omega
      clear e1 hw hcc hlen
      go_wp2_with fail
      go_quiet (fail)
      go_wp2
      go_roundw
      case rel => exact ⟨j + 1, _, hlt, by go_num, by rw [HE.out, wide_or _ j c HWK.out (by omega) h256], rfl⟩
      case measure => simp [intOf]; omega
    · obtain rfl : j = 4 := by omega
      rw [HU.out]
      have o2 := o1.drewN q
      have oP2 := oP.drewN q
      have hfr2 := hfr.drewN q
      clear c0 c1 c2 hf d0 d1 d2 d3 dg o1 oP hfr HC HW HB
      generalize w1.drewN q = w2 at *
      obtain ⟨c0, c1, c2, hf⟩ := own3 o2
      obtain ⟨d0, d1, d2, d3, dg⟩ := own4 oP2
      go_wp2_with fail
      go_still_tail 10, (by kernel_rfl)
      have o3 : Own (w2.setCell ⟨r, 1, none⟩ (.int .i64 ((p : Int) + 4))).drew r #[.slice (some ⟨b, off, none⟩) L cap, .int .i64 ((p : Int) + 4), .int .i64 0] 84 := by simpa using (o2.set 1 (.int .i64 ((p : Int) + 4))).drew
      have oP3 := (oP2.other (i := 1) hr (.int .i64 ((p : Int) + 4))).drew
      have hfr3 := (hfr2.set (g := r) (.inr rfl) 1 (.int .i64 ((p : Int) + 4))).drew
      go_upto_region 12 with fail
      clear c0 c1 c2 hf d0 d1 d2 d3 dg o2 oP2 hfr2
      generalize (w2.setCell ⟨r, 1, none⟩ (.int .i64 ((p : Int) + 4))).drew = w3 at *
      obtain ⟨c0, c1, c2, hf⟩ := own3 o3
      obtain ⟨d0, d1, d2, d3, dg⟩ := own4 oP3
      have hbit : ((u : Int) / 2147483648 == 1) = true := by rw [beq_iff_eq]; omega
      go_wp2_with fail
      refine Calls.mono (HM.out _ w3 (by rw [HV.out]; simp only [IntKind.wrap_u64]; unfold wrap64; omega)) ?_
      rintro e w4 ⟨rfl, b4⟩
      have o4 := o3.below b4
      have hfr4 := hfr3.trans (Fr.of b4)
      clear c0 c1 c2 hf d0 d1 d2 d3 dg o3 oP3 hfr3 b4 HM
      go_wp2
      go_ret
      exact ⟨ret_int (by rw [HV.out]; simp only [IntKind.wrap_u64]; unfold wrap64; omega), ⟨_, o4, fun _ => by simp⟩, hfr4⟩
set_option maxHeartbeats 2000000 in
set_option maxRecDepth 100000 in
theorem rrnum_s4hi0 (k : Nm) (lo hi : Int) {w : World} {r b off L cap p : Nat} {xs : List Nat} (hk : k = ⟨4, true, lo, hi⟩) (h : RrAt w r (some ⟨b, off, none⟩) L cap (p, 0)) (hL : L = xs.length) (hb : ∀ c ∈ xs, c < 256) (hm : L ≤ 9223372036854775807)
    (hc : ∀ i, i < xs.length → w.cell? ⟨b, off + i, none⟩ = some (.int .u8 ((xs.getD i 0 : Nat) : Int))) (hbl : b < w.heap.size) (hp : p + 4 ≤ L) (u : Nat) (hu : wid ((xs.drop p).take 4) = u) (h2 : 4294967296 ≤ 2 * u) (h3 : u < 4294967296) (V : Int) (hV : V = (u : Int) - 4294967296) (hmay : k.may V = false) :
    Calls Tryd.prog 42 #[ptr r, .agg (partC k).toArray] w fun e w' => e = .returned (.int .i64 0) ∧ RrRet r (some ⟨b, off, none⟩) L cap (p, 120) w w' := by
  obtain ⟨p', ho, hp'⟩ := h
  have hpp : p' = (p : Int) := hp' rfl
  subst hpp
  have oP := Own.new w #[.int .i64 4, .int .i64 lo, .int .i64 hi, .bool true] 67
  have o1 : Own (w.alloc (.cells #[.int .i64 4, .int .i64 lo, .int .i64 hi, .bool true] 67)) r #[.slice (some ⟨b, off, none⟩) L cap, .int .i64 (p : Int), .int .i64 0] 84 := ho.alloc (.cells #[.int .i64 4, .int .i64 lo, .int .i64 hi, .bool true] 67)
  have hfr : Fr (fun b => b = r) w (w.alloc (.cells #[.int .i64 4, .int .i64 lo, .int .i64 hi, .bool true] 67)) := (Fr.refl _ _).alloc _
  have HC : Hid (∀ i, i < xs.length → (w.alloc (.cells #[.int .i64 4, .int .i64 lo, .int .i64 hi, .bool true] 67)).cell? ⟨b, off + i, none⟩ = some (.int .u8 ((xs.getD i 0 : Nat) : Int))) := fun i hii => ((new_below w (.cells #[.int .i64 4, .int .i64 lo, .int .i64 hi, .bool true] 67)).cell (p := ⟨b, off + i, none⟩) hbl).trans (hc i hii)
  have HB : Hid (∀ i, i < xs.length → xs.getD i 0 < 256) := by
    intro i hi
    exact hb _ (by simp [List.getD, hi])
  have HW : Hid (∀ j, wid ((xs.drop p).take j) < 256 ^ ((xs.drop p).take j).length) := fun j => wid_lt _ fun c hc => hb c (List.mem_of_mem_drop (List.mem_of_mem_take hc))
  have HL : Hid (L = xs.length) := hL
  have HU : Hid (wid ((xs.drop p).take 4) = u) := hu
  have HV : Hid (V = (u : Int) - 4294967296) := hV
  have HM : Hid (∀ n W, n = V → Calls Tryd.prog 54 #[.agg #[.int .i64 4, .int .i64 lo, .int .i64 hi, .bool true], .int .i64 n] W fun e w' => e = .returned (.bool false) ∧ Below W.heap.size W w') := fun n W e => by
    have := rwithin_as k n W
    rw [e, hmay, hk] at this
    rw [e]
    exact this
  rw [hk]
  have hpL : (p : Int) ≤ (L : Int) := by omega
  have hsz : (4 : Int) ≤ (L : Int) - (p : Int) := by omega
  have hr : w.heap.size ≠ r := by have := ho.lt; omega
  clear hc hL hb hu hV hmay hk hp' ho hbl
  unfold partC
  go_enter Tryd.func42, Tryd.ntmps42
  go_upto_region 1 with fail
  generalize w.alloc (.cells #[.int .i64 4, .int .i64 lo, .int .i64 hi, .bool true] 67) = w1 at *
  obtain ⟨c0, c1, c2, hf⟩ := own3 o1
  obtain ⟨d0, d1, d2, d3, dg⟩ := own4 oP
  go_wp2_with fail
  go_quiet (fail)
  go_wp2_with fail
  go_loopw [5, 6] (fun n i wr => ∃ j q : Nat, j ≤ 4 ∧ i = .int .i64 (j : Int) ∧ n = .int .u64 ((wid ((xs.drop p).take j) : Nat) : Int) ∧ wr = w1.drewN q) (fun _ i _ => 4 - (intOf i).toNat)
  case atStart => exact ⟨0, nq, Nat.zero_le _, rfl, rfl, rfl⟩
  case round =>
    obtain ⟨j, q, hj, rfl, rfl, rfl⟩ := hrel
    by_cases hlt : j < 4
    · obtain ⟨c, hcc⟩ : ∃ c, c = xs.getD (p + j) 0 := ⟨_, rfl⟩
      have hcell : w1.cell? ⟨b, off + (p + j), none⟩ = some (.int .u8 (c : Int)) := by rw [hcc]; exact HC.out (p + j) (by rw [← HL.out]; omega)
      have h256 : c < 256 := by rw [hcc]; exact HB.out (p + j) (by rw [← HL.out]; omega)
      have hlen : j < (xs.drop p).length := by have := HL.out; simp; omega
      have e1 : wid ((xs.drop p).take (j + 1)) = wid ((xs.drop p).take j) + c * 256 ^ j := wid_step _ j c hlen (by rw [hcc]; simp [List.getD])
      have hw := HW.out j
      rw [List.length_take, Nat.min_eq_left (by omega)] at hw
      have HWK : Hid (wid ((xs.drop p).take j) < 256 ^ j) := hw
      have HE : Hid (wid ((xs.drop p).take (j + 1)) = wid ((xs.drop p).take j) + c * 256 ^ j) := e1
      have hj2 : (j : Int) < (4 : Int) := by omega
      have hpj : (p : Int) + (j : Int) < (L : Int) := by omega
      clear e1 hw hcc hlen
      go_wp2_with fail
      go_quiet (fail)
      go_wp2
      go_roundw
      case rel => exact ⟨j + 1, _, hlt, by go_num, by rw [HE.out, wide_or _ j c HWK.out (by omega) h256], rfl⟩
      case measure => simp [intOf]; omega
    · obtain rfl : j = 4 := by omega
      rw [HU.out]
      have o2 := o1.drewN q
      have oP2 := oP.drewN q
      have hfr2 := hfr.drewN q
      clear c0 c1 c2 hf d0 d1 d2 d3 dg o1 oP hfr HC HW HB
      generalize w1.drewN q = w2 at *
      obtain ⟨c0, c1, c2, hf⟩ := own3 o2
      obtain ⟨d0, d1, d2, d3, dg⟩ := own4 oP2
      go_wp2_with fail
      go_still_tail 10, (by kernel_rfl)
      have o3 : Own (w2.setCell ⟨r, 1, none⟩ (.int .i64 ((p : Int) + 4))).drew r #[.slice (some ⟨b, off, none⟩) L cap, .int .i64 ((p : Int) + 4), .int .i64 0] 84 := by simpa using (o2.set 1 (.int .i64 ((p : Int) + 4))).drew
      have oP3 := (oP2.other (i := 1) hr (.int .i64 ((p : Int) + 4))).drew
      have hfr3 := (hfr2.set (g := r) (.inr rfl) 1 (.int .i64 ((p : Int) + 4))).drew
      go_upto_region 12 with fail
      clear c0 c1 c2 hf d0 d1 d2 d3 dg o2 oP2 hfr2
      generalize (w2.setCell ⟨r, 1, none⟩ (.int .i64 ((p : Int) + 4))).drew = w3 at *
      obtain ⟨c0, c1, c2, hf⟩ := own3 o3
      obtain ⟨d0, d1, d2, d3, dg⟩ := own4 oP3
      have hbit : ((u : Int) / 2147483648 == 1) = true := by rw [beq_iff_eq]; omega
      go_wp2_with fail
      refine Calls.mono (HM.out _ w3 (by rw [HV.out]; simp only [IntKind.wrap_u64]; unfold wrap64; omega)) ?_
      rintro e w4 ⟨rfl, b4⟩
      have o4 := o3.below b4
      have hfr4 := hfr3.trans (Fr.of b4)
      have o5 : Own (w4.setCell ⟨r, 2, none⟩ (.int .i64 120)) r #[.slice (some ⟨b, off, none⟩) L cap, .int .i64 ((p : Int) + 4), .int .i64 120] 84 := by simpa using o4.set 2 (.int .i64 120)
      have hfr5 := hfr4.set (g := r) (.inr rfl) 2 (.int .i64 120)
      clear c0 c1 c2 hf d0 d1 d2 d3 dg o3 oP3 hfr3 b4 HM
      obtain ⟨c0, c1, c2, hf⟩ := own3 o4
      clear o4 hfr4
      go_wp2
      go_ret
      exact ⟨rfl, ⟨_, o5, fun q => by cases q⟩, hfr5⟩
set_option maxHeartbeats 2000000 in
set_option maxRecDepth 100000 in
theorem rrnum_s81 (k : Nm) (lo hi : Int) {w : World} {r b off L cap p : Nat} {xs : List Nat} (hk : k = ⟨8, true, lo, hi⟩) (h : RrAt w r (some ⟨b, off, none⟩) L cap (p, 0)) (hL : L = xs.length) (hb : ∀ c ∈ xs, c < 256) (hm : L ≤ 9223372036854775807)
    (hc : ∀ i, i < xs.length → w.cell? ⟨b, off + i, none⟩ = some (.int .u8 ((xs.getD i 0 : Nat) : Int))) (hbl : b < w.heap.size) (hp : p + 8 ≤ L) (u : Nat) (hu : wid ((xs.drop p).take 8) = u) (h3 : u < 18446744073709551616) (V : Int) (hV : V = wrap64 (u : Int)) (hmay : k.may V = true) :
    Calls Tryd.prog 42 #[ptr r, .agg (partC k).toArray] w fun e w' => e = .returned (.int .i64 V) ∧ RrRet r (some ⟨b, off, none⟩) L cap (p + 8, 0) w w' := by
  obtain ⟨p', ho, hp'⟩ := h
  have hpp : p' = (p : Int) := hp' rfl
  subst hpp
  have oP := Own.new w #[.int .i64 8, .int .i64 lo, .int .i64 hi, .bool true] 67
  have o1 : Own (w.alloc (.cells #[.int .i64 8, .int .i64 lo, .int .i64 hi, .bool true] 67)) r #[.slice (some ⟨b, off, none⟩) L cap, .int .i64 (p : Int), .int .i64 0] 84 := ho.alloc (.cells #[.int .i64 8, .int .i64 lo, .int .i64 hi, .bool true] 67)
  have hfr : Fr (fun b => b = r) w (w.alloc (.cells #[.int .i64 8, .int .i64 lo, .int .i64 hi, .bool true] 67)) := (Fr.refl _ _).alloc _
  have HC : Hid (∀ i, i < xs.length → (w.alloc (.cells #[.int .i64 8, .int .i64 lo, .int .i64 hi, .bool true] 67)).cell? ⟨b, off + i, none⟩ = some (.int .u8 ((xs.getD i 0 : Nat) : Int))) := fun i hii => ((new_below w (.cells #[.int .i64 8, .int .i64 lo, .int .i64 hi, .bool true] 67)).cell (p := ⟨b, off + i, none⟩) hbl).trans (hc i hii)
  have HB : Hid (∀ i, i < xs.length → xs.getD i 0 < 256) := by
    intro i hi
    exact hb _ (by simp [List.getD, hi])
  have HW : Hid (∀ j, wid ((xs.drop p).take j) < 256 ^ ((xs.drop p).take j).length) := fun j => wid_lt _ fun c hc => hb c (List.mem_of_mem_drop (List.mem_of_mem_take hc))
  have HL : Hid (L = xs.length) := hL
  have HU : Hid (wid ((xs.drop p).take 8) = u) := hu
  have HV : Hid (V = wrap64 (u : Int)) := hV
  have HM : Hid (∀ n W, n = V → Calls Tryd.prog 54 #[.agg #[.int .i64 8, .int .i64 lo, .int .i64 hi, .bool true], .int .i64 n] W fun e w' => e = .returned (.bool true) ∧ Below W.heap.size W w') := fun n W e => by
    have := rwithin_as k n W
    rw [e, hmay, hk] at this
    rw [e]
    exact this
  rw [hk]
  have hpL : (p : Int) ≤ (L : Int) := by omega
  have hsz : (8 : Int) ≤ (L : Int) - (p : Int) := by omega
  have hr : w.heap.size ≠ r := by have := ho.lt; omega
  clear hc hL hb hu hV hmay hk hp' ho hbl
  unfold partC
  go_enter Tryd.func42, Tryd.ntmps42
  go_upto_region 1 with fail
  generalize w.alloc (.cells #[.int .i64 8, .int .i64 lo, .int .i64 hi, .bool true] 67) = w1 at *
  obtain ⟨c0, c1, c2, hf⟩ := own3 o1
  obtain ⟨d0, d1, d2, d3, dg⟩ := own4 oP
  go_wp2_with fail
  go_quiet (fail)
  go_wp2_with fail
  go_loopw [5, 6] (fun n i wr => ∃ j q : Nat, j ≤ 8 ∧ i = .int .i64 (j : Int) ∧ n = .int .u64 ((wid ((xs.drop p).take j) : Nat) : Int) ∧ wr = w1.drewN q) (fun _ i _ => 8 - (intOf i).toNat)
  case atStart => exact ⟨0, nq, Nat.zero_le _, rfl, rfl, rfl⟩
  case round =>
    obtain ⟨j, q, hj, rfl, rfl, rfl⟩ := hrel
    by_cases hlt : j < 8
    · obtain ⟨c, hcc⟩ : ∃ c, c = xs.getD (p + j) 0 := ⟨_, rfl⟩
      have hcell : w1.cell? ⟨b, off + (p + j), none⟩ = some (.int .u8 (c : Int)) := by rw [hcc]; exact HC.out (p + j) (by rw [← HL.out]; omega)
      have h256 : c < 256 := by rw [hcc]; exact HB.out (p + j) (by rw [← HL.out]; omega)
      have hlen : j < (xs.drop p).length := by have := HL.out; simp; omega
      have e1 : wid ((xs.drop p).take (j + 1)) = wid ((xs.drop p).take j) + c * 256 ^ j := wid_step _ j c hlen (by rw [hcc]; simp [List.getD])
      have hw := HW.out j
      rw [List.length_take, Nat.min_eq_left (by omega)] at hw
      have HWK : Hid (wid ((xs.drop p).take j) < 256 ^ j) := hw
      have HE : Hid (wid ((xs.drop p).take (j + 1)) = wid ((xs.drop p).take j) + c * 256 ^ j) := e1
      have hj2 : (j : Int) < (8 : Int) := by omega
      have hpj : (p : Int) + (j : Int) < (L : Int) := by omega
      clear e1 hw hcc hlen
      go_wp2_with fail
      go_quiet (fail)
      go_wp2
      go_roundw
      case rel => exact ⟨j + 1, _, hlt, by go_num, by rw [HE.out, wide_or _ j c HWK.out (by omega) h256], rfl⟩
      case measure => simp [intOf]; omega
    · obtain rfl : j = 8 := by omega
      rw [HU.out]
      have o2 := o1.drewN q
      have oP2 := oP.drewN q
      have hfr2 := hfr.drewN q
      clear c0 c1 c2 hf d0 d1 d2 d3 dg o1 oP hfr HC HW HB
      generalize w1.drewN q = w2 at *
      obtain ⟨c0, c1, c2, hf⟩ := own3 o2
      obtain ⟨d0, d1, d2, d3, dg⟩ := own4 oP2
      go_wp2_with fail
      go_still_tail 10, (by kernel_rfl)
      have o3 : Own (w2.setCell ⟨r, 1, none⟩ (.int .i64 ((p : Int) + 8))).drew r #[.slice (some ⟨b, off, none⟩) L cap, .int .i64 ((p : Int) + 8), .int .i64 0] 84 := by simpa using (o2.set 1 (.int .i64 ((p : Int) + 8))).drew
      have oP3 := (oP2.other (i := 1) hr (.int .i64 ((p : Int) + 8))).drew
      have hfr3 := (hfr2.set (g := r) (.inr rfl) 1 (.int .i64 ((p : Int) + 8))).drew
      go_upto_region 12 with fail
      clear c0 c1 c2 hf d0 d1 d2 d3 dg o2 oP2 hfr2
      generalize (w2.setCell ⟨r, 1, none⟩ (.int .i64 ((p : Int) + 8))).drew = w3 at *
      obtain ⟨c0, c1, c2, hf⟩ := own3 o3
      obtain ⟨d0, d1, d2, d3, dg⟩ := own4 oP3
      go_wp2_with fail
      refine Calls.mono (HM.out _ w3 (by rw [HV.out])) ?_
      rintro e w4 ⟨rfl, b4⟩
      have o4 := o3.below b4
      have hfr4 := hfr3.trans (Fr.of b4)
      clear c0 c1 c2 hf d0 d1 d2 d3 dg o3 oP3 hfr3 b4 HM
      go_wp2
      go_ret
      exact ⟨ret_int (by rw [HV.out]), ⟨_, o4, fun _ => by simp⟩, hfr4⟩
set_option maxHeartbeats 2000000 in
set_option maxRecDepth 100000 in
theorem rrnum_s80 (k : Nm) (lo hi : Int) {w : World} {r b off L cap p : Nat} {xs : List Nat} (hk : k = ⟨8, true, lo, hi⟩) (h : RrAt w r (some ⟨b, off, none⟩) L cap (p, 0)) (hL : L = xs.length) (hb : ∀ c ∈ xs, c < 256) (hm : L ≤ 9223372036854775807)
    (hc : ∀ i, i < xs.length → w.cell? ⟨b, off + i, none⟩ = some (.int .u8 ((xs.getD i 0 : Nat) : Int))) (hbl : b < w.heap.size) (hp : p + 8 ≤ L) (u : Nat) (hu : wid ((xs.drop p).take 8) = u) (h3 : u < 18446744073709551616) (V : Int) (hV : V = wrap64 (u : Int)) (hmay : k.may V = false) :
    Calls Tryd.prog 42 #[ptr r, .agg (partC k).toArray] w fun e w' => e = .returned (.int .i64 0) ∧ RrRet r (some ⟨b, off, none⟩) L cap (p, 120) w w' := by
  obtain ⟨p', ho, hp'⟩ := h
  have hpp : p' = (p : Int) := hp' rfl
  subst hpp
  have oP := Own.new w #[.int .i64 8, .int .i64 lo, .int .i64 hi, .bool true] 67
  have o1 : Own (w.alloc (.cells #[.int .i64 8, .int .i64 lo, .int .i64 hi, .bool true] 67)) r #[.slice (some ⟨b, off, none⟩) L cap, .int .i64 (p : Int), .int .i64 0] 84 := ho.alloc (.cells #[.int .i64 8, .int .i64 lo, .int .i64 hi, .bool true] 67)
  have hfr : Fr (fun b => b = r) w (w.alloc (.cells #[.int .i64 8, .int .i64 lo, .int .i64 hi, .bool true] 67)) := (Fr.refl _ _).alloc _
  have HC : Hid (∀ i, i < xs.length → (w.alloc (.cells #[.int .i64 8, .int .i64 lo, .int .i64 hi, .bool true] 67)).cell? ⟨b, off + i, none⟩ = some (.int .u8 ((xs.getD i 0 : Nat) : Int))) := fun i hii => ((new_below w (.cells #[.int .i64 8, .int .i64 lo, .int .i64 hi, .bool true] 67)).cell (p := ⟨b, off + i, none⟩) hbl).trans (hc i hii)
  have HB : Hid (∀ i, i < xs.length → xs.getD i 0 < 256) := by
    intro i hi
    exact hb _ (by simp [List.getD, hi])
  have HW : Hid (∀ j, wid ((xs.drop p).take j) < 256 ^ ((xs.drop p).take j).length) := fun j => wid_lt _ fun c hc => hb c (List.mem_of_mem_drop (List.mem_of_mem_take hc))
  have HL : Hid (L = xs.length) := hL
  have HU : Hid (wid ((xs.drop p).take 8) = u) := hu
  have HV : Hid (V = wrap64 (u : Int)) := hV
  have HM : Hid (∀ n W, n = V → Calls Tryd.prog 54 #[.agg #[.int .i64 8, .int .i64 lo, .int .i64 hi, .bool true], .int .i64 n] W fun e w' => e = .returned (.bool false) ∧ Below W.heap.size W w') := fun n W e => by
    have := rwithin_as k n W
    rw [e, hmay, hk] at this
    rw [e]
    exact this
  rw [hk]
  have hpL : (p : Int) ≤ (L : Int) := by omega
  have hsz : (8 : Int) ≤ (L : Int) - (p : Int) := by omega
  have hr : w.heap.size ≠ r := by have := ho.lt; omega
  clear hc hL hb hu hV hmay hk hp' ho hbl
  unfold partC
  go_enter Tryd.func42, Tryd.ntmps42
  go_upto_region 1 with fail
  generalize w.alloc (.cells #[.int .i64 8, .int .i64 lo, .int .i64 hi, .bool true] 67) = w1 at *
  obtain ⟨c0, c1, c2, hf⟩ := own3 o1
  obtain ⟨d0, d1, d2, d3, dg⟩ := own4 oP
  go_wp2_with fail
  go_quiet (fail)
  go_wp2_with fail
  go_loopw [5, 6] (fun n i wr => ∃ j q : Nat, j ≤ 8 ∧ i = .int .i64 (j : Int) ∧ n = .int .u64 ((wid ((xs.drop p).take j) : Nat) : Int) ∧ wr = w1.drewN q) (fun _ i _ => 8 - (intOf i).toNat)
  case atStart => exact ⟨0, nq, Nat.zero_le _, rfl, rfl, rfl⟩
  case round =>
    obtain ⟨j, q, hj, rfl, rfl, rfl⟩ := hrel
    by_cases hlt : j < 8
    · obtain ⟨c, hcc⟩ : ∃ c, c = xs.getD (p + j) 0 := ⟨_, rfl⟩
      have hcell : w1.cell? ⟨b, off + (p + j), none⟩ = some (.int .u8 (c : Int)) := by rw [hcc]; exact HC.out (p + j) (by rw [← HL.out]; omega)
      have h256 : c < 256 := by rw [hcc]; exact HB.out (p + j) (by rw [← HL.out]; omega)
      have hlen : j < (xs.drop p).length := by have := HL.out; simp; omega
      have e1 : wid ((xs.drop p).take (j + 1)) = wid ((xs.drop p).take j) + c * 256 ^ j := wid_step _ j c hlen (by rw [hcc]; simp [List.getD])
      have hw := HW.out j
      rw [List.length_take, Nat.min_eq_left (by omega)] at hw
      have HWK : Hid (wid ((xs.drop p).take j) < 256 ^ j) := hw
      have HE : Hid (wid ((xs.drop p).take (j + 1)) = wid ((xs.drop p).take j) + c * 256 ^ j) := e1
      have hj2 : (j : Int) < (8 : Int) := by omega
      have hpj : (p : Int) + (j : Int) < (L : Int) := by omega
      clear e1 hw hcc hlen
      go_wp2_with fail
      go_quiet (fail)
      go_wp2
      go_roundw
      case rel => exact ⟨j + 1, _, hlt, by go_num, by rw [HE.out, wide_or _ j c HWK.out (by omega) h256], rfl⟩
      case measure => simp [intOf]; omega
    · obtain rfl : j = 8 := by omega
      rw [HU.out]
      have o2 := o1.drewN q
      have oP2 := oP.drewN q
      have hfr2 := hfr.drewN q
      clear c0 c1 c2 hf d0 d1 d2 d3 dg o1 oP hfr HC HW HB
      generalize w1.drewN q = w2 at *
      obtain ⟨c0, c1, c2, hf⟩ := own3 o2
      obtain ⟨d0, d1, d2, d3, dg⟩ := own4 oP2
      go_wp2_with fail
      go_still_tail 10, (by kernel_rfl)
      have o3 : Own (w2.setCell ⟨r, 1, none⟩ (.int .i64 ((p : Int) + 8))).drew r #[.slice (some ⟨b, off, none⟩) L cap, .int .i64 ((p : Int) + 8), .int .i64 0] 84 := by simpa using (o2.set 1 (.int .i64 ((p : Int) + 8))).drew
      have oP3 := (oP2.other (i := 1) hr (.int .i64 ((p : Int) + 8))).drew
      have hfr3 := (hfr2.set (g := r) (.inr rfl) 1 (.int .i64 ((p : Int) + 8))).drew
      go_upto_region 12 with fail
      clear c0 c1 c2 hf d0 d1 d2 d3 dg o2 oP2 hfr2
      generalize (w2.setCell ⟨r, 1, none⟩ (.int .i64 ((p : Int) + 8))).drew = w3 at *
      obtain ⟨c0, c1, c2, hf⟩ := own3 o3
      obtain ⟨d0, d1, d2, d3, dg⟩ := own4 oP3
      go_wp2_with fail
      refine Calls.mono (HM.out _ w3 (by rw [HV.out])) ?_
      rintro e w4 ⟨rfl, b4⟩
      have o4 := o3.below b4
      have hfr4 := hfr3.trans (Fr.of b4)
      have o5 : Own (w4.setCell ⟨r, 2, none⟩ (.int .i64 120)) r #[.slice (some ⟨b, off, none⟩) L cap, .int .i64 ((p : Int) + 8), .int .i64 120] 84 := by simpa using o4.set 2 (.int .i64 120)
      have hfr5 := hfr4.set (g := r) (.inr rfl) 2 (.int .i64 120)
      clear c0 c1 c2 hf d0 d1 d2 d3 dg o3 oP3 hfr3 b4 HM
      obtain ⟨c0, c1, c2, hf⟩ := own3 o4
      clear o4 hfr4
      go_wp2
      go_ret
      exact ⟨rfl, ⟨_, o5, fun q => by cases q⟩, hfr5⟩
end Go.Proofs.YtffnlcamobekoaaDoor
