/-
  THE WALK of WireWrites.
-/
import Derived.Test.YtekoeeneebolbaaRefPuts
namespace Go.Proofs.Ytekoeeneebolbaa
open Go.RowKit

theorem conv_own {W : World} {B : Nat} {v : Value} {xs : List Nat} (own : W.ownsRow B 5 1 v xs.length (nums xs)) (hb : ∀ c ∈ xs, c < 256) (hm : xs.length ≤ 65536) :
    ∀ w', Below W.heap.size W w' → (convert 23 9 v).run Try.prog w' = .ok (.string (strN xs)) w' := by
  intro w' h
  rcases own.2 with ⟨rfl, h0⟩ | ⟨g, cap, _, rfl, _⟩
  · have hx : xs = [] := List.eq_nil_of_length_eq_zero h0
    subst hx
    exact conv_any (L := 0) (cap := 0) (xs := []) ⟨by simp, by simp, .inl rfl⟩ rfl
  · exact conv_any ((at_of_owns rfl own hb (by omega)).kept h).1 rfl
theorem own_kept {w w' : World} {B n : Nat} {v : Value} {xs : List Value} (h : w.ownsRow B 5 1 v n xs) (hb : Below w.heap.size w w') : w'.ownsRow B 5 1 v n xs := by
  refine ⟨h.1, ?_⟩
  rcases h.2 with hn | ⟨g, cap, cur, hv, hB, hg, rest⟩
  · exact .inl hn
  · exact .inr ⟨g, cap, cur, hv, hB, by rw [hb.block g (Array.getElem?_eq_some_iff.1 hg).1]; exact hg, rest⟩

def fixG (n : Nat) (z : Int) : List Nat := if 1 ≤ z ∧ z ≤ 8 then fixN n z.toNat else []
theorem fixG_byte (n : Nat) (z : Int) : ∀ c ∈ fixG n z, c < 256 := by
  unfold fixG; split
  · exact fixN_byte n _
  · simp
theorem fixG_len (n : Nat) (z : Int) : (fixG n z).length ≤ 65536 := by
  unfold fixG; split
  · rw [fixN_length]; omega
  · simp

theorem put_gives (x : Int) (n : Nat) (P : List Nat) (hx : x = n) (h : n < 18446744073709551616) (hP : P = putN n) (w : World) : Calls Try.prog 9 #[.int .u64 x] w fun e w' => Gives w P e w' := by
  subst hP
  refine (put_of x n hx h w).mono ?_
  rintro e w1 ⟨g, rfl, own, hb⟩
  exact ⟨_, rfl, own, hb⟩
theorem rput_as (x : Int) (n : Nat) (P : List Nat) (hx : x = n) (h : n < 18446744073709551616) (hP : P = putN n) (w : World) : Calls Try.prog 12 #[.int .u64 x] w fun e w' => Gives w P e w' := by
  subst hP; exact rput_of x n hx w h
theorem putInt_gives (x : Int) (R : List Nat) (h1 : -9223372036854775808 ≤ x) (h2 : x ≤ 9223372036854775807) (hR : R = putN (zag x)) (w : World) : Calls Try.prog 10 #[.int .i64 x] w fun e w' => Gives w R e w' := by
  subst hR
  refine (putInt_any x w h1 h2).mono ?_
  rintro e w1 ⟨g, rfl, own, hb⟩
  exact ⟨_, rfl, own, hb⟩
theorem rputInt_of (x : Int) (R : List Nat) (h1 : -9223372036854775808 ≤ x) (h2 : x ≤ 9223372036854775807) (hR : R = putN (zag x)) (w : World) : Calls Try.prog 13 #[.int .i64 x] w fun e w' => Gives w R e w' := by
  subst hR; exact rputInt_any x w h1 h2
theorem fixed_gives (n : Nat) (z : Int) (F : List Nat) (h : n < 18446744073709551616) (hF : F = fixG n z) (w : World) : Calls Try.prog 11 #[.int .u64 n, .int .i64 z] w fun e w' => Gives w F e w' := by
  subst hF
  unfold fixG
  by_cases hz : 1 ≤ z ∧ z ≤ 8
  · rw [if_pos hz]
    obtain ⟨k, rfl⟩ := Int.eq_ofNat_of_zero_le (show 0 ≤ z by omega)
    refine (fixed_any n k w h (by omega) (by omega)).mono ?_
    rintro e w1 ⟨g, rfl, own, hb⟩
    exact ⟨_, rfl, by rw [Int.toNat_natCast, fixN_length]; exact own, hb⟩
  · rw [if_neg hz]
    refine (fixed_none n z w hz).mono ?_
    rintro e w1 ⟨rfl, rfl⟩
    exact ⟨_, rfl, World.ownsRow_nil _ _ _ _, Below.refl _ _⟩
theorem rfixed_of (n : Nat) (z : Int) (F : List Nat) (h : n < 18446744073709551616) (hF : F = fixG n z) (w : World) : Calls Try.prog 14 #[.int .u64 n, .int .i64 z] w fun e w' => Gives w F e w' := by
  subst hF
  unfold fixG
  by_cases hz : 1 ≤ z ∧ z ≤ 8
  · rw [if_pos hz]
    obtain ⟨k, rfl⟩ := Int.eq_ofNat_of_zero_le (show 0 ≤ z by omega)
    rw [Int.toNat_natCast]
    exact rfixed_any n k w h (by omega) (by omega)
  · rw [if_neg hz]
    exact rfixed_none n z w hz

set_option maxRecDepth 100000 in
set_option maxHeartbeats 4000000 in
theorem writes_walk (n : Nat) (z : Int) (w : World) (hn : n < 18446744073709551616) :
    Calls Try.prog 3 #[.int .u64 n, .int .i64 z] w fun e w' => e = .returned (.bool true) ∧ Below w.heap.size w w' := by
  have HW : Hid (-9223372036854775808 ≤ wrap64 (n : Int) ∧ wrap64 (n : Int) ≤ 9223372036854775807) := wrap64_bd n
  obtain ⟨P, hP⟩ : ∃ P, P = putN n := ⟨_, rfl⟩
  obtain ⟨R, hR⟩ : ∃ R, R = putN (zag (wrap64 (n : Int))) := ⟨_, rfl⟩
  obtain ⟨F, hF⟩ : ∃ F, F = fixG n z := ⟨_, rfl⟩
  have HP : Hid (P = putN n) := hP
  have HR : Hid (R = putN (zag (wrap64 (n : Int)))) := hR
  have HF : Hid (F = fixG n z) := hF
  have BP : Hid (∀ c ∈ P, c < 256) := by rw [hP]; exact putN_byte n
  have BR : Hid (∀ c ∈ R, c < 256) := by rw [hR]; exact putN_byte _
  have BF : Hid (∀ c ∈ F, c < 256) := by rw [hF]; exact fixG_byte n z
  have LP : Hid (P.length ≤ 65536) := by unfold Hid; rw [hP]; have := plen_ten hn; omega
  have LR : Hid (R.length ≤ 65536) := by unfold Hid; rw [hR]; have := plen_ten (zag_lt HW.out.1 (by have := HW.out.2; omega : wrap64 (n : Int) < 9223372036854775808)); omega
  have LF : Hid (F.length ≤ 65536) := by unfold Hid; rw [hF]; exact fixG_len n z
  clear hP hR hF
  go_enter Try.func3, Try.ntmps3
  go_wp2_with fail
  refine (put_gives _ n P rfl hn HP.out _).mono ?_
  rintro e w1 ⟨v1, rfl, o1, hb1⟩
  have O1 : Hid (w1.ownsRow w.heap.size 5 1 v1 P.length (nums P)) := o1
  have B1 : Hid (Below w.heap.size w w1) := hb1
  clear o1 hb1
  go_wp2_with fail
  refine (putInt_gives _ R HW.out.1 HW.out.2 HR.out _).mono ?_
  rintro e w2 ⟨v2, rfl, o2, hb2⟩
  have O2 : Hid (w2.ownsRow w1.heap.size 5 1 v2 R.length (nums R)) := o2
  have B2 : Hid (Below w1.heap.size w1 w2) := hb2
  clear o2 hb2
  go_wp2_with fail
  refine (fixed_gives n z F hn HF.out _).mono ?_
  rintro e w3 ⟨v3, rfl, o3, hb3⟩
  have O3 : Hid (w3.ownsRow w2.heap.size 5 1 v3 F.length (nums F)) := o3
  have B3 : Hid (Below w2.heap.size w2 w3) := hb3
  clear o3 hb3
  have B13 : Hid (Below w1.heap.size w1 w3) := below_chain B2.out B3.out (Nat.le_refl _)
  have CV1 : Hid (∀ w', Below w3.heap.size w3 w' → (convert 23 9 v1).run Try.prog w' = .ok (.string (strN P)) w') := conv_own (own_kept O1.out B13.out) BP.out LP.out
  have CV2 : Hid (∀ w', Below w3.heap.size w3 w' → (convert 23 9 v2).run Try.prog w' = .ok (.string (strN R)) w') := conv_own (own_kept O2.out B3.out) BR.out LR.out
  have CV3 : Hid (∀ w', Below w3.heap.size w3 w' → (convert 23 9 v3).run Try.prog w' = .ok (.string (strN F)) w') := conv_own O3.out BF.out LF.out
  go_wp2_with fail
  refine wp_region_noPanic ?_
  refine wp_region_held_drew (S := fun w' => Below w3.heap.size w3 w') (by kernel_rfl) (Below.refl _ _).drew (fun hSa0 => ?_)
  refine take_lit (i := 0) (v := ?_) rfl (by kernel_rfl) (by kernel_rfl) (by kernel_rfl) (fun _ _ _ h => h) (Or.inl ⟨by rfl, ?_⟩) hSa0 ?_
  rotate_left 1
  · (intro w' hSw; go_simp <;> with_reducible rfl)
  try simp only [Act.put, List.setIfInBounds_toArray, List.set_cons_zero, List.set_cons_succ]
  refine take_lit (i := 1) (v := ?_) rfl (by kernel_rfl) (by kernel_rfl) (by kernel_rfl) (fun _ _ _ h => h) (Or.inl ⟨by rfl, ?_⟩) hSa0 ?_
  rotate_left 1
  · (intro w' hSw; have cv := CV1.out w' hSw; go_simp <;> with_reducible rfl)
  try simp only [Act.put, List.setIfInBounds_toArray, List.set_cons_zero, List.set_cons_succ]
  refine take_lit (i := 2) (v := ?_) rfl (by kernel_rfl) (by kernel_rfl) (by kernel_rfl) (fun _ _ _ h => h) (Or.inl ⟨by rfl, ?_⟩) hSa0 ?_
  rotate_left 1
  · (intro w' hSw; go_simp <;> with_reducible rfl)
  try simp only [Act.put, List.setIfInBounds_toArray, List.set_cons_zero, List.set_cons_succ]
  refine wpAnyH_ready (rs := [3]) (by kernel_rfl) (by simp) ?_
  refine ready_lit rfl (fun K hK => ?_)
  go_simp
  try simp only [IntWalk.i64_left]
  refine (rput_as _ n P rfl hn HP.out _).mono ?_
  rintro e w4 ⟨u1, rfl, ou1, hb4⟩
  have hk4 : Below w3.heap.size w3 w4 := below_chain (Below.refl _ _).drew hb4 (Nat.le_refl _)
  have CU1 : Hid (∀ w', Below w4.heap.size w4 w' → (convert 23 9 u1).run Try.prog w' = .ok (.string (strN P)) w') := conv_own (ou1) BP.out LP.out
  have CA2 : Hid (∀ w', Below w4.heap.size w4 w' → (convert 23 9 v2).run Try.prog w' = .ok (.string (strN R)) w') := fun w' h => CV2.out w' (below_chain hk4 h (Nat.le_refl _))
  clear ou1 hb4
  go_wp2_with fail
  refine hK.out _ _ ?_ (fun hHeld => ?_)
  · exact hk4
  clear hK K hHeld
  try simp only [Act.put, List.setIfInBounds_toArray, List.set_cons_zero, List.set_cons_succ]
  refine wpAnyH_strengthen (S' := fun w' => Below w4.heap.size w4 w') (fun w' h => below_chain hk4 h (Nat.le_refl _)) ?_
  have hSa1 : Below w4.heap.size w4 w4 := Below.refl _ _
  refine take_lit (i := 4) (v := ?_) rfl (by kernel_rfl) (by kernel_rfl) (by kernel_rfl) (fun _ _ _ h => h) (Or.inl ⟨by rfl, ?_⟩) hSa1 ?_
  rotate_left 1
  · (intro w' hSw; have cv := CU1.out w' hSw; go_simp <;> with_reducible rfl)
  try simp only [Act.put, List.setIfInBounds_toArray, List.set_cons_zero, List.set_cons_succ]
  refine take_lit (i := 5) (v := ?_) rfl (by kernel_rfl) (by kernel_rfl) (by kernel_rfl) (fun _ _ _ h => h) (Or.inl ⟨by rfl, ?_⟩) hSa1 ?_
  rotate_left 1
  · (intro w' hSw; go_simp <;> with_reducible rfl)
  try simp only [Act.put, List.setIfInBounds_toArray, List.set_cons_zero, List.set_cons_succ]
  refine take_lit (i := 6) (v := ?_) rfl (by kernel_rfl) (by kernel_rfl) (by kernel_rfl) (fun _ _ _ h => h) (Or.inl ⟨by rfl, ?_⟩) hSa1 ?_
  rotate_left 1
  · (intro w' hSw; go_simp <;> with_reducible rfl)
  try simp only [Act.put, List.setIfInBounds_toArray, List.set_cons_zero, List.set_cons_succ]
  refine take_lit (i := 7) (v := ?_) rfl (by kernel_rfl) (by kernel_rfl) (by kernel_rfl) (fun _ _ _ h => h) (Or.inl ⟨by rfl, ?_⟩) hSa1 ?_
  rotate_left 1
  · (intro w' hSw; go_simp <;> with_reducible rfl)
  try simp only [Act.put, List.setIfInBounds_toArray, List.set_cons_zero, List.set_cons_succ]
  refine take_lit (i := 8) (v := ?_) rfl (by kernel_rfl) (by kernel_rfl) (by kernel_rfl) (fun _ _ _ h => h) (Or.inl ⟨by rfl, ?_⟩) hSa1 ?_
  rotate_left 1
  · (intro w' hSw; have cv := CA2.out w' hSw; go_simp <;> with_reducible rfl)
  try simp only [Act.put, List.setIfInBounds_toArray, List.set_cons_zero, List.set_cons_succ]
  refine take_lit (i := 9) (v := ?_) rfl (by kernel_rfl) (by kernel_rfl) (by kernel_rfl) (fun _ _ _ h => h) (Or.inl ⟨by rfl, ?_⟩) hSa1 ?_
  rotate_left 1
  · (intro w' hSw; go_simp <;> with_reducible rfl)
  try simp only [Act.put, List.setIfInBounds_toArray, List.set_cons_zero, List.set_cons_succ]
  refine take_lit (i := 10) (v := ?_) rfl (by kernel_rfl) (by kernel_rfl) (by kernel_rfl) (fun _ _ _ h => h) (Or.inl ⟨by rfl, ?_⟩) hSa1 ?_
  rotate_left 1
  · (intro w' hSw; go_simp <;> with_reducible rfl)
  try simp only [Act.put, List.setIfInBounds_toArray, List.set_cons_zero, List.set_cons_succ]
  refine wpAnyH_ready (rs := [11]) (by kernel_rfl) (by simp) ?_
  refine ready_lit rfl (fun K hK => ?_)
  go_simp
  try simp only [IntWalk.i64_left]
  refine (rputInt_of _ R HW.out.1 HW.out.2 HR.out _).mono ?_
  rintro e w5 ⟨u2, rfl, ou2, hb5⟩
  have CU2 : Hid (∀ w', Below w5.heap.size w5 w' → (convert 23 9 u2).run Try.prog w' = .ok (.string (strN R)) w') := conv_own ou2 BR.out LR.out
  have CA3 : Hid (∀ w', Below w5.heap.size w5 w' → (convert 23 9 v3).run Try.prog w' = .ok (.string (strN F)) w') := fun w' h => CV3.out w' (below_chain hk4 (below_chain hb5 h (Nat.le_refl _)) (Nat.le_refl _))
  clear ou2
  go_wp2_with fail
  refine hK.out _ _ ?_ (fun hHeld => ?_)
  · exact hb5
  clear hK K hHeld
  try simp only [Act.put, List.setIfInBounds_toArray, List.set_cons_zero, List.set_cons_succ]
  refine wpAnyH_strengthen (S' := fun w' => Below w5.heap.size w5 w') (fun w' h => below_chain hb5 h (Nat.le_refl _)) ?_
  have hSa2 : Below w5.heap.size w5 w5 := Below.refl _ _
  refine take_lit (i := 12) (v := ?_) rfl (by kernel_rfl) (by kernel_rfl) (by kernel_rfl) (fun _ _ _ h => h) (Or.inl ⟨by rfl, ?_⟩) hSa2 ?_
  rotate_left 1
  · (intro w' hSw; have cv := CU2.out w' hSw; go_simp <;> with_reducible rfl)
  try simp only [Act.put, List.setIfInBounds_toArray, List.set_cons_zero, List.set_cons_succ]
  refine take_lit (i := 13) (v := ?_) rfl (by kernel_rfl) (by kernel_rfl) (by kernel_rfl) (fun _ _ _ h => h) (Or.inl ⟨by rfl, ?_⟩) hSa2 ?_
  rotate_left 1
  · (intro w' hSw; go_simp <;> with_reducible rfl)
  try simp only [Act.put, List.setIfInBounds_toArray, List.set_cons_zero, List.set_cons_succ]
  refine take_lit (i := 14) (v := ?_) rfl (by kernel_rfl) (by kernel_rfl) (by kernel_rfl) (fun _ _ _ h => h) (Or.inl ⟨by rfl, ?_⟩) hSa2 ?_
  rotate_left 1
  · (intro w' hSw; go_simp <;> with_reducible rfl)
  try simp only [Act.put, List.setIfInBounds_toArray, List.set_cons_zero, List.set_cons_succ]
  refine take_lit (i := 15) (v := ?_) rfl (by kernel_rfl) (by kernel_rfl) (by kernel_rfl) (fun _ _ _ h => h) (Or.inl ⟨by rfl, ?_⟩) hSa2 ?_
  rotate_left 1
  · (intro w' hSw; go_simp <;> with_reducible rfl)
  try simp only [Act.put, List.setIfInBounds_toArray, List.set_cons_zero, List.set_cons_succ]
  refine take_lit (i := 16) (v := ?_) rfl (by kernel_rfl) (by kernel_rfl) (by kernel_rfl) (fun _ _ _ h => h) (Or.inl ⟨by rfl, ?_⟩) hSa2 ?_
  rotate_left 1
  · (intro w' hSw; go_simp <;> with_reducible rfl)
  try simp only [Act.put, List.setIfInBounds_toArray, List.set_cons_zero, List.set_cons_succ]
  refine take_lit (i := 17) (v := ?_) rfl (by kernel_rfl) (by kernel_rfl) (by kernel_rfl) (fun _ _ _ h => h) (Or.inl ⟨by rfl, ?_⟩) hSa2 ?_
  rotate_left 1
  · (intro w' hSw; have cv := CA3.out w' hSw; go_simp <;> with_reducible rfl)
  try simp only [Act.put, List.setIfInBounds_toArray, List.set_cons_zero, List.set_cons_succ]
  refine take_lit (i := 18) (v := ?_) rfl (by kernel_rfl) (by kernel_rfl) (by kernel_rfl) (fun _ _ _ h => h) (Or.inl ⟨by rfl, ?_⟩) hSa2 ?_
  rotate_left 1
  · (intro w' hSw; go_simp <;> with_reducible rfl)
  try simp only [Act.put, List.setIfInBounds_toArray, List.set_cons_zero, List.set_cons_succ]
  refine take_lit (i := 19) (v := ?_) rfl (by kernel_rfl) (by kernel_rfl) (by kernel_rfl) (fun _ _ _ h => h) (Or.inl ⟨by rfl, ?_⟩) hSa2 ?_
  rotate_left 1
  · (intro w' hSw; go_simp <;> with_reducible rfl)
  try simp only [Act.put, List.setIfInBounds_toArray, List.set_cons_zero, List.set_cons_succ]
  refine wpAnyH_ready (rs := [20]) (by kernel_rfl) (by simp) ?_
  refine ready_lit rfl (fun K hK => ?_)
  go_simp
  try simp only [IntWalk.i64_left]
  refine (rfixed_of n z F hn HF.out _).mono ?_
  rintro e w6 ⟨u3, rfl, ou3, hb6⟩
  have CU3 : Hid (∀ w', Below w6.heap.size w6 w' → (convert 23 9 u3).run Try.prog w' = .ok (.string (strN F)) w') := conv_own ou3 BF.out LF.out
  clear ou3
  go_wp2_with fail
  refine hK.out _ _ ?_ (fun hHeld => ?_)
  · exact hb6
  clear hK K hHeld
  try simp only [Act.put, List.setIfInBounds_toArray, List.set_cons_zero, List.set_cons_succ]
  refine wpAnyH_strengthen (S' := fun w' => Below w6.heap.size w6 w') (fun w' h => below_chain hb6 h (Nat.le_refl _)) ?_
  have hSa3 : Below w6.heap.size w6 w6 := Below.refl _ _
  refine take_lit (i := 21) (v := ?_) rfl (by kernel_rfl) (by kernel_rfl) (by kernel_rfl) (fun _ _ _ h => h) (Or.inl ⟨by rfl, ?_⟩) hSa3 ?_
  rotate_left 1
  · (intro w' hSw; have cv := CU3.out w' hSw; go_simp <;> with_reducible rfl)
  try simp only [Act.put, List.setIfInBounds_toArray, List.set_cons_zero, List.set_cons_succ]
  refine take_lit (i := 22) (v := ?_) rfl (by kernel_rfl) (by kernel_rfl) (by kernel_rfl) (fun _ _ _ h => h) (Or.inl ⟨by rfl, ?_⟩) hSa3 ?_
  rotate_left 1
  · (intro w' hSw; go_simp <;> with_reducible rfl)
  try simp only [Act.put, List.setIfInBounds_toArray, List.set_cons_zero, List.set_cons_succ]
  refine take_lit (i := 23) (v := ?_) rfl (by kernel_rfl) (by kernel_rfl) (by kernel_rfl) (fun _ _ _ h => h) (Or.inl ⟨by rfl, ?_⟩) hSa3 ?_
  rotate_left 1
  · (intro w' hSw; go_simp <;> with_reducible rfl)
  try simp only [Act.put, List.setIfInBounds_toArray, List.set_cons_zero, List.set_cons_succ]
  refine wpAnyH_done (by kernel_rfl) ?_ _
  refine NoPanic.normal ?_
  have B36 : Hid (Below w3.heap.size w3 w6) := below_chain (below_chain hk4 hb5 (Nat.le_refl _)) hb6 (Nat.le_refl _)
  clear hk4 hb5 hb6 CV1 CV2 CV3 CU1 CU2 CU3 CA2 CA3 hSa0 hSa1 hSa2 hSa3
  have P1 : Hid (w6.ownsRow w.heap.size 5 1 v1 P.length (nums P)) := own_kept (own_kept O1.out B13.out) B36.out
  have P2 : Hid (w6.ownsRow w1.heap.size 5 1 v2 R.length (nums R)) := own_kept (own_kept O2.out B3.out) B36.out
  have P3 : Hid (w6.ownsRow w2.heap.size 5 1 v3 F.length (nums F)) := own_kept O3.out B36.out
  have BA : Hid (Below w.heap.size w w6) := below_chain (below_chain B1.out B13.out (Nat.le_refl _)) B36.out (Nat.le_refl _)
  have L1 := O1.out.lt
  have L2 := O2.out.lt
  have Z1 : Hid (∀ k, v1.ownBlock = some k → w.heap.size ≤ k ∧ k < w1.heap.size) := L1
  have Z2 : Hid (∀ k, v2.ownBlock = some k → w1.heap.size ≤ k ∧ k < w2.heap.size) := L2
  have Z3 : Hid (∀ k, v3.ownBlock = some k → w2.heap.size ≤ k) := fun k hk => (O3.out.lt k hk).1
  have s01 : Hid (w.heap.size ≤ w1.heap.size) := B1.out.size
  have s12 : Hid (w1.heap.size ≤ w2.heap.size) := B2.out.size
  clear L1 L2 O1 O2 O3 B1 B2 B3 B13 B36
  go_wp2_with fail
  refine (spoilt_any w.heap.size P.length v1 (nums P) _ LP.out P1.out).mono ?_
  rintro e w7 ⟨rfl, gr7⟩
  have Q2 : Hid (w7.ownsRow w1.heap.size 5 1 v2 R.length (nums R)) := P2.out.kept gr7 (by
    cases h2 : v2.ownBlock with
    | none => exact .inl rfl
    | some k2 => refine .inr fun h1 => ?_; have a := Z1.out k2 h1.symm; have b := Z2.out k2 h2; omega)
  have Q3 : Hid (w7.ownsRow w2.heap.size 5 1 v3 F.length (nums F)) := P3.out.kept gr7 (by
    cases h2 : v3.ownBlock with
    | none => exact .inl rfl
    | some k2 => refine .inr fun h1 => ?_; have a := Z1.out k2 h1.symm; have b := Z3.out k2 h2; have c := s12.out; omega)
  have B7 : Hid (Below w.heap.size w w7) := BA.out.grown gr7 BA.out.size fun k hk => (Z1.out k hk).1
  clear gr7 P1 P2 P3 BA
  go_wp2_with fail
  refine (spoilt_any w1.heap.size R.length v2 (nums R) _ LR.out Q2.out).mono ?_
  rintro e w8 ⟨rfl, gr8⟩
  have T3 : Hid (w8.ownsRow w2.heap.size 5 1 v3 F.length (nums F)) := Q3.out.kept gr8 (by
    cases h2 : v3.ownBlock with
    | none => exact .inl rfl
    | some k2 => refine .inr fun h1 => ?_; have a := Z2.out k2 h1.symm; have b := Z3.out k2 h2; omega)
  have B8 : Hid (Below w.heap.size w w8) := B7.out.grown gr8 B7.out.size fun k hk => Nat.le_trans s01.out (Z2.out k hk).1
  clear gr8 Q2 Q3 B7
  go_wp2_with fail
  refine (spoilt_any w2.heap.size F.length v3 (nums F) _ LF.out T3.out).mono ?_
  rintro e w9 ⟨rfl, gr9⟩
  have B9 : Hid (Below w.heap.size w w9) := B8.out.grown gr9 B8.out.size fun k hk => Nat.le_trans (Nat.le_trans s01.out s12.out) (Z3.out k hk)
  clear gr9 T3 B8 Z1 Z2 Z3
  go_wp2_with fail
  refine wp_region_noPanic ?_
  refine wp_region_held_drew (S := fun w' => Below w9.heap.size w9 w') (by kernel_rfl) (Below.refl _ _).drew (fun hSb0 => ?_)
  refine take_lit (i := 0) (v := ?_) rfl (by kernel_rfl) (by kernel_rfl) (by kernel_rfl) (fun _ _ _ h => h) (Or.inl ⟨by rfl, ?_⟩) hSb0 ?_
  rotate_left 1
  · (intro w' hSw; go_simp <;> with_reducible rfl)
  try simp only [Act.put, List.setIfInBounds_toArray, List.set_cons_zero, List.set_cons_succ]
  refine take_lit (i := 3) (v := ?_) rfl (by kernel_rfl) (by kernel_rfl) (by kernel_rfl) (fun _ _ _ h => h) (Or.inl ⟨by rfl, ?_⟩) hSb0 ?_
  rotate_left 1
  · (intro w' hSw; go_simp <;> with_reducible rfl)
  try simp only [Act.put, List.setIfInBounds_toArray, List.set_cons_zero, List.set_cons_succ]
  refine wpAnyH_ready (rs := [1]) (by kernel_rfl) (by simp) ?_
  refine ready_lit rfl (fun K hK => ?_)
  go_simp
  try simp only [IntWalk.i64_left]
  refine (put_gives _ n P rfl hn HP.out _).mono ?_
  rintro e w10 ⟨x0, rfl, ox0, hb10⟩
  have hk10 : Below w9.heap.size w9 w10 := below_chain (Below.refl _ _).drew hb10 (Nat.le_refl _)
  have CX0 : Hid (∀ w', Below w10.heap.size w10 w' → (convert 23 9 x0).run Try.prog w' = .ok (.string (strN P)) w') := conv_own ox0 BP.out LP.out
  clear ox0
  go_wp2_with fail
  refine hK.out _ _ ?_ (fun hHeld => ?_)
  · exact hk10
  clear hK K hHeld
  try simp only [Act.put, List.setIfInBounds_toArray, List.set_cons_zero, List.set_cons_succ]
  refine wpAnyH_strengthen (S' := fun w' => Below w10.heap.size w10 w') (fun w' h => below_chain hk10 h (Nat.le_refl _)) ?_
  have hSb1 : Below w10.heap.size w10 w10 := Below.refl _ _
  refine take_lit (i := 2) (v := ?_) rfl (by kernel_rfl) (by kernel_rfl) (by kernel_rfl) (fun _ _ _ h => h) (Or.inl ⟨by rfl, ?_⟩) hSb1 ?_
  rotate_left 1
  · (intro w' hSw; have cv := CX0.out w' hSw; go_simp <;> with_reducible rfl)
  try simp only [Act.put, List.setIfInBounds_toArray, List.set_cons_zero, List.set_cons_succ]
  refine wpAnyH_ready (rs := [4]) (by kernel_rfl) (by simp) ?_
  refine ready_lit rfl (fun K hK => ?_)
  go_simp
  try simp only [IntWalk.i64_left]
  refine (rput_as _ n P rfl hn HP.out _).mono ?_
  rintro e w11 ⟨x1, rfl, ox1, hb11⟩
  have CX1 : Hid (∀ w', Below w11.heap.size w11 w' → (convert 23 9 x1).run Try.prog w' = .ok (.string (strN P)) w') := conv_own ox1 BP.out LP.out
  clear ox1
  go_wp2_with fail
  refine hK.out _ _ ?_ (fun hHeld => ?_)
  · exact hb11
  clear hK K hHeld
  try simp only [Act.put, List.setIfInBounds_toArray, List.set_cons_zero, List.set_cons_succ]
  refine wpAnyH_strengthen (S' := fun w' => Below w11.heap.size w11 w') (fun w' h => below_chain hb11 h (Nat.le_refl _)) ?_
  have hSb2 : Below w11.heap.size w11 w11 := Below.refl _ _
  refine take_lit (i := 5) (v := ?_) rfl (by kernel_rfl) (by kernel_rfl) (by kernel_rfl) (fun _ _ _ h => h) (Or.inl ⟨by rfl, ?_⟩) hSb2 ?_
  rotate_left 1
  · (intro w' hSw; have cv := CX1.out w' hSw; go_simp <;> with_reducible rfl)
  try simp only [Act.put, List.setIfInBounds_toArray, List.set_cons_zero, List.set_cons_succ]
  refine take_lit (i := 6) (v := ?_) rfl (by kernel_rfl) (by kernel_rfl) (by kernel_rfl) (fun _ _ _ h => h) (Or.inl ⟨by rfl, ?_⟩) hSb2 ?_
  rotate_left 1
  · (intro w' hSw; go_simp <;> with_reducible rfl)
  try simp only [Act.put, List.setIfInBounds_toArray, List.set_cons_zero, List.set_cons_succ]
  refine take_lit (i := 7) (v := ?_) rfl (by kernel_rfl) (by kernel_rfl) (by kernel_rfl) (fun _ _ _ h => h) (Or.inl ⟨by rfl, ?_⟩) hSb2 ?_
  rotate_left 1
  · (intro w' hSw; go_simp <;> with_reducible rfl)
  try simp only [Act.put, List.setIfInBounds_toArray, List.set_cons_zero, List.set_cons_succ]
  refine take_lit (i := 8) (v := ?_) rfl (by kernel_rfl) (by kernel_rfl) (by kernel_rfl) (fun _ _ _ h => h) (Or.inl ⟨by rfl, ?_⟩) hSb2 ?_
  rotate_left 1
  · (intro w' hSw; go_simp <;> with_reducible rfl)
  try simp only [Act.put, List.setIfInBounds_toArray, List.set_cons_zero, List.set_cons_succ]
  refine take_lit (i := 9) (v := ?_) rfl (by kernel_rfl) (by kernel_rfl) (by kernel_rfl) (fun _ _ _ h => h) (Or.inl ⟨by rfl, ?_⟩) hSb2 ?_
  rotate_left 1
  · (intro w' hSw; go_simp <;> with_reducible rfl)
  try simp only [Act.put, List.setIfInBounds_toArray, List.set_cons_zero, List.set_cons_succ]
  refine take_lit (i := 12) (v := ?_) rfl (by kernel_rfl) (by kernel_rfl) (by kernel_rfl) (fun _ _ _ h => h) (Or.inl ⟨by rfl, ?_⟩) hSb2 ?_
  rotate_left 1
  · (intro w' hSw; go_simp <;> with_reducible rfl)
  try simp only [Act.put, List.setIfInBounds_toArray, List.set_cons_zero, List.set_cons_succ]
  refine take_lit (i := 13) (v := ?_) rfl (by kernel_rfl) (by kernel_rfl) (by kernel_rfl) (fun _ _ _ h => h) (Or.inl ⟨by rfl, ?_⟩) hSb2 ?_
  rotate_left 1
  · (intro w' hSw; go_simp <;> with_reducible rfl)
  try simp only [Act.put, List.setIfInBounds_toArray, List.set_cons_zero, List.set_cons_succ]
  refine wpAnyH_ready (rs := [10]) (by kernel_rfl) (by simp) ?_
  refine ready_lit rfl (fun K hK => ?_)
  go_simp
  try simp only [IntWalk.i64_left]
  refine (putInt_gives _ R HW.out.1 HW.out.2 HR.out _).mono ?_
  rintro e w12 ⟨x2, rfl, ox2, hb12⟩
  have CX2 : Hid (∀ w', Below w12.heap.size w12 w' → (convert 23 9 x2).run Try.prog w' = .ok (.string (strN R)) w') := conv_own ox2 BR.out LR.out
  clear ox2
  go_wp2_with fail
  refine hK.out _ _ ?_ (fun hHeld => ?_)
  · exact hb12
  clear hK K hHeld
  try simp only [Act.put, List.setIfInBounds_toArray, List.set_cons_zero, List.set_cons_succ]
  refine wpAnyH_strengthen (S' := fun w' => Below w12.heap.size w12 w') (fun w' h => below_chain hb12 h (Nat.le_refl _)) ?_
  have hSb3 : Below w12.heap.size w12 w12 := Below.refl _ _
  refine take_lit (i := 11) (v := ?_) rfl (by kernel_rfl) (by kernel_rfl) (by kernel_rfl) (fun _ _ _ h => h) (Or.inl ⟨by rfl, ?_⟩) hSb3 ?_
  rotate_left 1
  · (intro w' hSw; have cv := CX2.out w' hSw; go_simp <;> with_reducible rfl)
  try simp only [Act.put, List.setIfInBounds_toArray, List.set_cons_zero, List.set_cons_succ]
  refine wpAnyH_ready (rs := [14]) (by kernel_rfl) (by simp) ?_
  refine ready_lit rfl (fun K hK => ?_)
  go_simp
  try simp only [IntWalk.i64_left]
  refine (rputInt_of _ R HW.out.1 HW.out.2 HR.out _).mono ?_
  rintro e w13 ⟨x3, rfl, ox3, hb13⟩
  have CX3 : Hid (∀ w', Below w13.heap.size w13 w' → (convert 23 9 x3).run Try.prog w' = .ok (.string (strN R)) w') := conv_own ox3 BR.out LR.out
  clear ox3
  go_wp2_with fail
  refine hK.out _ _ ?_ (fun hHeld => ?_)
  · exact hb13
  clear hK K hHeld
  try simp only [Act.put, List.setIfInBounds_toArray, List.set_cons_zero, List.set_cons_succ]
  refine wpAnyH_strengthen (S' := fun w' => Below w13.heap.size w13 w') (fun w' h => below_chain hb13 h (Nat.le_refl _)) ?_
  have hSb4 : Below w13.heap.size w13 w13 := Below.refl _ _
  refine take_lit (i := 15) (v := ?_) rfl (by kernel_rfl) (by kernel_rfl) (by kernel_rfl) (fun _ _ _ h => h) (Or.inl ⟨by rfl, ?_⟩) hSb4 ?_
  rotate_left 1
  · (intro w' hSw; have cv := CX3.out w' hSw; go_simp <;> with_reducible rfl)
  try simp only [Act.put, List.setIfInBounds_toArray, List.set_cons_zero, List.set_cons_succ]
  refine take_lit (i := 16) (v := ?_) rfl (by kernel_rfl) (by kernel_rfl) (by kernel_rfl) (fun _ _ _ h => h) (Or.inl ⟨by rfl, ?_⟩) hSb4 ?_
  rotate_left 1
  · (intro w' hSw; go_simp <;> with_reducible rfl)
  try simp only [Act.put, List.setIfInBounds_toArray, List.set_cons_zero, List.set_cons_succ]
  refine take_lit (i := 17) (v := ?_) rfl (by kernel_rfl) (by kernel_rfl) (by kernel_rfl) (fun _ _ _ h => h) (Or.inl ⟨by rfl, ?_⟩) hSb4 ?_
  rotate_left 1
  · (intro w' hSw; go_simp <;> with_reducible rfl)
  try simp only [Act.put, List.setIfInBounds_toArray, List.set_cons_zero, List.set_cons_succ]
  refine take_lit (i := 18) (v := ?_) rfl (by kernel_rfl) (by kernel_rfl) (by kernel_rfl) (fun _ _ _ h => h) (Or.inl ⟨by rfl, ?_⟩) hSb4 ?_
  rotate_left 1
  · (intro w' hSw; go_simp <;> with_reducible rfl)
  try simp only [Act.put, List.setIfInBounds_toArray, List.set_cons_zero, List.set_cons_succ]
  refine take_lit (i := 19) (v := ?_) rfl (by kernel_rfl) (by kernel_rfl) (by kernel_rfl) (fun _ _ _ h => h) (Or.inl ⟨by rfl, ?_⟩) hSb4 ?_
  rotate_left 1
  · (intro w' hSw; go_simp <;> with_reducible rfl)
  try simp only [Act.put, List.setIfInBounds_toArray, List.set_cons_zero, List.set_cons_succ]
  refine take_lit (i := 20) (v := ?_) rfl (by kernel_rfl) (by kernel_rfl) (by kernel_rfl) (fun _ _ _ h => h) (Or.inl ⟨by rfl, ?_⟩) hSb4 ?_
  rotate_left 1
  · (intro w' hSw; go_simp <;> with_reducible rfl)
  try simp only [Act.put, List.setIfInBounds_toArray, List.set_cons_zero, List.set_cons_succ]
  refine take_lit (i := 23) (v := ?_) rfl (by kernel_rfl) (by kernel_rfl) (by kernel_rfl) (fun _ _ _ h => h) (Or.inl ⟨by rfl, ?_⟩) hSb4 ?_
  rotate_left 1
  · (intro w' hSw; go_simp <;> with_reducible rfl)
  try simp only [Act.put, List.setIfInBounds_toArray, List.set_cons_zero, List.set_cons_succ]
  refine take_lit (i := 24) (v := ?_) rfl (by kernel_rfl) (by kernel_rfl) (by kernel_rfl) (fun _ _ _ h => h) (Or.inl ⟨by rfl, ?_⟩) hSb4 ?_
  rotate_left 1
  · (intro w' hSw; go_simp <;> with_reducible rfl)
  try simp only [Act.put, List.setIfInBounds_toArray, List.set_cons_zero, List.set_cons_succ]
  refine wpAnyH_ready (rs := [21]) (by kernel_rfl) (by simp) ?_
  refine ready_lit rfl (fun K hK => ?_)
  go_simp
  try simp only [IntWalk.i64_left]
  refine (fixed_gives n z F hn HF.out _).mono ?_
  rintro e w14 ⟨x4, rfl, ox4, hb14⟩
  have CX4 : Hid (∀ w', Below w14.heap.size w14 w' → (convert 23 9 x4).run Try.prog w' = .ok (.string (strN F)) w') := conv_own ox4 BF.out LF.out
  clear ox4
  go_wp2_with fail
  refine hK.out _ _ ?_ (fun hHeld => ?_)
  · exact hb14
  clear hK K hHeld
  try simp only [Act.put, List.setIfInBounds_toArray, List.set_cons_zero, List.set_cons_succ]
  refine wpAnyH_strengthen (S' := fun w' => Below w14.heap.size w14 w') (fun w' h => below_chain hb14 h (Nat.le_refl _)) ?_
  have hSb5 : Below w14.heap.size w14 w14 := Below.refl _ _
  refine take_lit (i := 22) (v := ?_) rfl (by kernel_rfl) (by kernel_rfl) (by kernel_rfl) (fun _ _ _ h => h) (Or.inl ⟨by rfl, ?_⟩) hSb5 ?_
  rotate_left 1
  · (intro w' hSw; have cv := CX4.out w' hSw; go_simp <;> with_reducible rfl)
  try simp only [Act.put, List.setIfInBounds_toArray, List.set_cons_zero, List.set_cons_succ]
  refine wpAnyH_ready (rs := [25]) (by kernel_rfl) (by simp) ?_
  refine ready_lit rfl (fun K hK => ?_)
  go_simp
  try simp only [IntWalk.i64_left]
  refine (rfixed_of n z F hn HF.out _).mono ?_
  rintro e w15 ⟨x5, rfl, ox5, hb15⟩
  have CX5 : Hid (∀ w', Below w15.heap.size w15 w' → (convert 23 9 x5).run Try.prog w' = .ok (.string (strN F)) w') := conv_own ox5 BF.out LF.out
  clear ox5
  go_wp2_with fail
  refine hK.out _ _ ?_ (fun hHeld => ?_)
  · exact hb15
  clear hK K hHeld
  try simp only [Act.put, List.setIfInBounds_toArray, List.set_cons_zero, List.set_cons_succ]
  refine wpAnyH_strengthen (S' := fun w' => Below w15.heap.size w15 w') (fun w' h => below_chain hb15 h (Nat.le_refl _)) ?_
  have hSb6 : Below w15.heap.size w15 w15 := Below.refl _ _
  refine take_lit (i := 26) (v := ?_) rfl (by kernel_rfl) (by kernel_rfl) (by kernel_rfl) (fun _ _ _ h => h) (Or.inl ⟨by rfl, ?_⟩) hSb6 ?_
  rotate_left 1
  · (intro w' hSw; have cv := CX5.out w' hSw; go_simp <;> with_reducible rfl)
  try simp only [Act.put, List.setIfInBounds_toArray, List.set_cons_zero, List.set_cons_succ]
  refine take_lit (i := 27) (v := ?_) rfl (by kernel_rfl) (by kernel_rfl) (by kernel_rfl) (fun _ _ _ h => h) (Or.inl ⟨by rfl, ?_⟩) hSb6 ?_
  rotate_left 1
  · (intro w' hSw; go_simp <;> with_reducible rfl)
  try simp only [Act.put, List.setIfInBounds_toArray, List.set_cons_zero, List.set_cons_succ]
  refine take_lit (i := 28) (v := ?_) rfl (by kernel_rfl) (by kernel_rfl) (by kernel_rfl) (fun _ _ _ h => h) (Or.inl ⟨by rfl, ?_⟩) hSb6 ?_
  rotate_left 1
  · (intro w' hSw; go_simp <;> with_reducible rfl)
  try simp only [Act.put, List.setIfInBounds_toArray, List.set_cons_zero, List.set_cons_succ]
  refine take_lit (i := 29) (v := ?_) rfl (by kernel_rfl) (by kernel_rfl) (by kernel_rfl) (fun _ _ _ h => h) (Or.inl ⟨by rfl, ?_⟩) hSb6 ?_
  rotate_left 1
  · (intro w' hSw; go_simp <;> with_reducible rfl)
  try simp only [Act.put, List.setIfInBounds_toArray, List.set_cons_zero, List.set_cons_succ]
  refine wpAnyH_ready (rs := [30]) (by kernel_rfl) (by simp) ?_
  refine ready_lit rfl (fun K hK => ?_)
  go_simp
  try simp only [IntWalk.i64_left]
  refine (works_any _).mono ?_
  rintro e w16 ⟨rfl, hb16⟩
  go_wp2_with fail
  refine hK.out _ _ ?_ (fun hHeld => ?_)
  · exact hb16
  clear hK K hHeld
  try simp only [Act.put, List.setIfInBounds_toArray, List.set_cons_zero, List.set_cons_succ]
  refine wpAnyH_strengthen (S' := fun w' => Below w16.heap.size w16 w') (fun w' h => below_chain hb16 h (Nat.le_refl _)) ?_
  have hSb7 : Below w16.heap.size w16 w16 := Below.refl _ _
  refine take_lit (i := 31) (v := ?_) rfl (by kernel_rfl) (by kernel_rfl) (by kernel_rfl) (fun _ _ _ h => h) (Or.inl ⟨by rfl, ?_⟩) hSb7 ?_
  rotate_left 1
  · (intro w' hSw; go_simp <;> with_reducible rfl)
  try simp only [Act.put, List.setIfInBounds_toArray, List.set_cons_zero, List.set_cons_succ]
  refine take_lit (i := 32) (v := ?_) rfl (by kernel_rfl) (by kernel_rfl) (by kernel_rfl) (fun _ _ _ h => h) (Or.inl ⟨by rfl, ?_⟩) hSb7 ?_
  rotate_left 1
  · (intro w' hSw; go_simp <;> with_reducible rfl)
  try simp only [Act.put, List.setIfInBounds_toArray, List.set_cons_zero, List.set_cons_succ]
  refine wpAnyH_done (by kernel_rfl) ?_ _
  refine NoPanic.normal ?_
  go_wp2
  go_ret
  exact ⟨rfl, below_chain B9.out (below_chain (below_chain (below_chain (below_chain (below_chain (below_chain hk10 hb11 (Nat.le_refl _)) hb12 (Nat.le_refl _)) hb13 (Nat.le_refl _)) hb14 (Nat.le_refl _)) hb15 (Nat.le_refl _)) hb16 (Nat.le_refl _)) (Nat.le_refl _)⟩
end Go.Proofs.Ytekoeeneebolbaa
