/-
  Rn, what is reached of it.
-/
import Derived.Test.YtkmmnocooibljaaGreatDoorLz
import Derived.Test.YtkmmnocooibljaaGreatDoorLyq
import Derived.Test.YtkmmnocooibljaaGreatDoorWiq
import Derived.Deep.QuietTactic
import Derived.BigQuiet
namespace Go.Proofs.YtkmmnocooibljaaGreatDoor
open Go.ChangeShapes Go.WideShapes Go.ChangeAt Go.RowKit Go.Deep
set_option linter.unusedVariables false

theorem val_in {k : Nm} {wd : Int} {f : Nat} (hk : NumIs k wd f) (u : Nat) (hu : u < 256 ^ k.sz) : -9223372036854775808 ≤ k.val u ∧ k.val u ≤ 9223372036854775807 := by
  have h8 := hk.ok.sz
  have hp : 256 ^ k.sz ≤ 256 ^ 8 := Nat.pow_le_pow_right (by omega) h8
  unfold Nm.val
  rcases hk.w with ⟨h1, _, h2⟩ | ⟨h1, h2⟩
  · have hp4 : 256 ^ k.sz ≤ 256 ^ 4 := Nat.pow_le_pow_right (by omega) h2
    rw [if_neg (by rw [h1]; simp)]; omega
  · have e : ((256 : Int) ^ k.sz) = ((256 ^ k.sz : Nat) : Int) := by simp
    rw [e]
    simp only [h1, true_and]
    generalize 256 ^ k.sz = P at *
    split <;> omega
set_option maxHeartbeats 1000000 in
theorem signed_as {k : Nm} {wd : Int} {f : Nat} (hk : NumIs k wd f) (u : Nat) (hu : u < 256 ^ k.sz) (n : Int) (hn : n = wrap64 (u : Int)) (w : World) :
    Calls Tryz.prog 94 #[numV k.sz wd f, .int .i64 n] w fun e w' => e = .returned (.int .i64 (k.val u)) ∧ Below w.heap.size w w' := by
  rcases hk.w with ⟨h1, rfl, h2⟩ | ⟨h1, ⟨rfl, h2⟩ | ⟨rfl, h2⟩ | ⟨rfl, h2⟩⟩
  · have e : n = k.val u := by
      have hp4 : 256 ^ k.sz ≤ 256 ^ 4 := Nat.pow_le_pow_right (by omega) h2
      unfold Nm.val
      rw [if_neg (by rw [h1]; simp), hn]; unfold wrap64; omega
    rw [← e]
    clear hn hu e h1 h2 hk
    generalize (k.sz : Int) = z
    go_enter Tryz.func94, Tryz.ntmps94
    go_wp2
    go_ret
    exact ⟨rfl, new_below _ _⟩
  · have e : wr8 n = k.val u := by
      unfold Nm.val
      rw [h2] at hu ⊢
      rw [hn]; unfold wrap64 wr8; simp only [h1, true_and]; split <;> omega
    rw [← e]
    clear hn hu e h1 h2 hk
    generalize (k.sz : Int) = z
    go_enter Tryz.func94, Tryz.ntmps94
    go_wp2_with fail
    refine (wrap1 n _).mono ?_
    rintro e w1 ⟨rfl, rfl⟩
    go_wp2
    go_ret
    exact ⟨rfl, new_below _ _⟩
  · have e : wr32 n = k.val u := by
      unfold Nm.val
      rw [h2] at hu ⊢
      rw [hn]; unfold wrap64 wr32; simp only [h1, true_and]; split <;> omega
    rw [← e]
    clear hn hu e h1 h2 hk
    generalize (k.sz : Int) = z
    go_enter Tryz.func94, Tryz.ntmps94
    go_wp2_with fail
    refine (wrap2 n _).mono ?_
    rintro e w1 ⟨rfl, rfl⟩
    go_wp2
    go_ret
    exact ⟨rfl, new_below _ _⟩
  · have e : n = k.val u := by
      unfold Nm.val
      rw [h2] at hu ⊢
      rw [hn]; unfold wrap64; simp only [h1, true_and]; split <;> omega
    rw [← e]
    clear hn hu e h1 h2 hk
    generalize (k.sz : Int) = z
    go_enter Tryz.func94, Tryz.ntmps94
    go_wp2_with fail
    refine (wrap3 n _).mono ?_
    rintro e w1 ⟨rfl, rfl⟩
    go_wp2
    go_ret
    exact ⟨rfl, new_below _ _⟩
set_option maxHeartbeats 1000000 in
theorem rnum_skip {k : Nm} {wd : Int} {f : Nat} {w : World} {r : Nat} {a : Option Addr} {L cap : Nat} (s : St) (ho : Own w r (rdC a L cap s) 104) (h : s.2 ≠ 0 ∨ k.sz = 0) :
    Calls Tryz.prog 61 #[ptr r, numV k.sz wd f] w fun e w' => e = .returned (.int .i64 0) ∧ RdRet r a L cap s w w' := by
  have hr := ho.lt
  have o1 := ho.alloc (.cells #[.int .i64 k.sz, .int .u8 wd, .func (.func f) #[] #[]] 98)
  have o2 := Own.new w #[.int .i64 k.sz, .int .u8 wd, .func (.func f) #[] #[]] 98
  have HR : Hid (RdRet r a L cap s w (w.alloc (.cells #[.int .i64 k.sz, .int .u8 wd, .func (.func f) #[] #[]] 98))) := ⟨o1, (Fr.refl _ w).alloc _⟩
  obtain ⟨q0, hq0⟩ : ∃ q0 : Int, q0 = (s.2 : Int) := ⟨_, rfl⟩
  obtain ⟨z0, hz0⟩ : ∃ z0 : Int, z0 = (k.sz : Int) := ⟨_, rfl⟩
  unfold rdC at o1
  rw [← hq0] at o1
  rw [← hz0] at o1 o2 HR ⊢
  have hh : q0 ≠ 0 ∨ (q0 = 0 ∧ z0 = 0) := by omega
  clear hq0 hz0 ho h
  rcases hh with h1 | ⟨rfl, rfl⟩
  · go_enter Tryz.func61, Tryz.ntmps61
    go_upto_region 1 with fail
    generalize w.alloc (.cells #[.int .i64 z0, .int .u8 wd, .func (.func f) #[] #[]] 98) = w1 at *
    obtain ⟨c0, c1, c2, hf⟩ := own3 o1
    obtain ⟨d0, d1, d2, hg⟩ := own3 o2
    clear o1 o2
    go_wp2
    go_ret
    exact ⟨rfl, HR.out⟩
  · go_enter Tryz.func61, Tryz.ntmps61
    go_upto_region 1 with fail
    generalize w.alloc (.cells #[.int .i64 0, .int .u8 wd, .func (.func f) #[] #[]] 98) = w1 at *
    obtain ⟨c0, c1, c2, hf⟩ := own3 o1
    obtain ⟨d0, d1, d2, hg⟩ := own3 o2
    clear o1 o2
    go_wp2
    go_ret
    exact ⟨rfl, HR.out⟩
set_option maxHeartbeats 2000000 in
set_option maxRecDepth 100000 in
theorem rnum_short {k : Nm} {wd : Int} {f : Nat} {w : World} {r : Nat} {a : Option Addr} {L cap : Nat} (p : Nat) (ho : Own w r (rdC a L cap (p, 0)) 104) (h1 : 1 ≤ k.sz) (h8 : k.sz ≤ 8) (hp : p ≤ L) (hL : L ≤ 9223372036854775807) (h : L < p + k.sz) :
    Calls Tryz.prog 61 #[ptr r, numV k.sz wd f] w fun e w' => e = .returned (.int .i64 0) ∧ RdRet r a L cap (p, 10) w w' := by
  have hr := ho.lt
  have o1 := ho.alloc (.cells #[.int .i64 k.sz, .int .u8 wd, .func (.func f) #[] #[]] 98)
  have o2 := Own.new w #[.int .i64 k.sz, .int .u8 wd, .func (.func f) #[] #[]] 98
  have HR : Hid (∀ n, RdRet r a L cap (p, 10) w (((w.alloc (.cells #[.int .i64 k.sz, .int .u8 wd, .func (.func f) #[] #[]] 98)).drewN n).setCell ⟨r, 2, none⟩ (.int .i64 10))) := by
    intro n
    refine ⟨?_, (((Fr.refl (fun b => b = r) w).alloc _).drewN n).set (g := r) (.inr rfl) 2 _⟩
    have := (o1.drewN n).set 2 (.int .i64 10)
    simpa [rdC] using this
  obtain ⟨z0, hz0⟩ : ∃ z0 : Int, z0 = (k.sz : Int) := ⟨_, rfl⟩
  obtain ⟨p0, hp0⟩ : ∃ p0 : Int, p0 = (p : Int) := ⟨_, rfl⟩
  unfold rdC at o1
  rw [show (((p, 0) : St).1 : Int) = p0 from hp0.symm, show (((p, 0) : St).2 : Int) = 0 from rfl] at o1
  rw [← hz0] at o1 o2 HR ⊢
  have hs : 1 ≤ z0 ∧ z0 ≤ 8 := by omega
  have h0 : 0 ≤ p0 := by omega
  have hle : p0 ≤ L := by omega
  have hsh : (L : Int) - p0 < z0 := by omega
  have hz : (z0 == 0) = false := by simp; omega
  have HW : Hid (∀ (W : World) n, Calls Tryz.prog 93 #[.slice a L cap, .int .i64 p0, .int .i64 z0] (W.drewN n) fun e w' => e = .returned (.tuple #[.int .u64 0, .int .i64 0, .int .i64 10]) ∧ W.drewN n = w') := fun W n => wide_short a L cap p0 z0 (W.drewN n) hL hs h0 hle hsh
  clear ho h hz0 hp0 hs h0 hle hsh h1 h8 hp hL
  go_enter Tryz.func61, Tryz.ntmps61
  go_upto_region 1 with fail
  generalize w.alloc (.cells #[.int .i64 z0, .int .u8 wd, .func (.func f) #[] #[]] 98) = w1 at *
  obtain ⟨c0, c1, c2, hf⟩ := own3 o1
  obtain ⟨d0, d1, d2, hg⟩ := own3 o2
  clear o1 o2
  go_wp2_with fail
  go_quiet ((go_at_call 93; exact Calls.quiet_of_same ((HW.out _ _).mono fun _ _ h => ⟨h.1, h.2.symm⟩)))
  go_wp2
  go_ret
  exact ⟨rfl, HR.out _⟩
theorem take_wid_lt {xs : List Nat} (hb : ∀ c ∈ xs, c < 256) (p n : Nat) (h : p + n ≤ xs.length) : wid ((xs.drop p).take n) < 256 ^ n := by
  have := wid_lt ((xs.drop p).take n) fun c hc => hb c (List.mem_of_mem_drop (List.mem_of_mem_take hc))
  rwa [List.length_take, List.length_drop, Nat.min_eq_left (by omega)] at this
set_option maxHeartbeats 2000000 in
set_option maxRecDepth 100000 in
theorem rnum_read {k : Nm} {wd : Int} {f : Nat} (hk : NumIs k wd f) {w : World} {r : Nat} {b off L cap : Nat} {xs : List Nat} (p : Nat) (ho : Own w r (rdC (some ⟨b, off, none⟩) L cap (p, 0)) 104) (h1 : 1 ≤ k.sz) (hbt : ∀ c ∈ xs, c < 256)
    (hc : ∀ i, i < xs.length → w.cell? ⟨b, off + i, none⟩ = some (.int .u8 ((xs.getD i 0 : Nat) : Int))) (hLx : L = xs.length) (hL : L ≤ 9223372036854775807) (h : p + k.sz ≤ L) (m : Bool) (hm : k.may (k.val (wid ((xs.drop p).take k.sz))) = m) :
    Calls Tryz.prog 61 #[ptr r, numV k.sz wd f] w fun e w' => e = .returned (.int .i64 (if m = true then k.val (wid ((xs.drop p).take k.sz)) else 0)) ∧ RdRet r (some ⟨b, off, none⟩) L cap (if m = true then (p + k.sz, 0) else (p, 120)) w w' := by
  have hr := ho.lt
  have h8 := hk.ok.sz
  have o1 := ho.alloc (.cells #[.int .i64 k.sz, .int .u8 wd, .func (.func f) #[] #[]] 98)
  have o2 := Own.new w #[.int .i64 k.sz, .int .u8 wd, .func (.func f) #[] #[]] 98
  have hu := take_wid_lt hbt p k.sz (by omega)
  have hfn : ∀ (a : Array Value) (w : World), (callFunc f a).run Tryz.prog w = .ok (.enter f a) w := hk.fn
  have hfr : Fr (fun g => g = r) w (w.alloc (.cells #[.int .i64 k.sz, .int .u8 wd, .func (.func f) #[] #[]] 98)) := (Fr.refl _ w).alloc _
  have HW : Hid (∀ n, Calls Tryz.prog 93 #[.slice (some ⟨b, off, none⟩) L cap, .int .i64 (p : Int), .int .i64 (k.sz : Int)] ((w.alloc (.cells #[.int .i64 k.sz, .int .u8 wd, .func (.func f) #[] #[]] 98)).drewN n) fun e w' => e = .returned (.tuple #[.int .u64 (wid ((xs.drop p).take k.sz) : Nat), .int .i64 ((p : Int) + (k.sz : Int)), .int .i64 0]) ∧ (w.alloc (.cells #[.int .i64 k.sz, .int .u8 wd, .func (.func f) #[] #[]] 98)).drewN n = w') := by
    intro n
    refine wide_row b off L cap xs p k.sz _ hLx hbt hL (fun i hi => ?_) h1 h8 h
    have hci := hc i hi
    rw [← hci]
    exact Below.cell (new_below w _) (World.block_lt_of_cell? w _ hci)
  have HS : Hid (∀ W : World, Calls Tryz.prog 94 #[numV k.sz wd f, .int .i64 (wrap64 ((wid ((xs.drop p).take k.sz) : Nat) : Int))] W fun e w' => e = .returned (.int .i64 (k.val (wid ((xs.drop p).take k.sz)))) ∧ Below W.heap.size W w') := fun W => signed_as hk _ hu _ rfl W
  have hv := val_in hk _ hu
  have HM : Hid (∀ W : World, Calls Tryz.prog f #[.int .i64 (k.val (wid ((xs.drop p).take k.sz)))] W fun e w' => e = .returned (.bool m) ∧ W = w') := fun W => by rw [← hm]; exact hk.may _ W hv.1 hv.2
  have hz : ((k.sz : Int) == 0) = false := by simp; omega
  generalize hV : k.val (wid ((xs.drop p).take k.sz)) = V at *
  generalize wid ((xs.drop p).take k.sz) = U at *
  obtain ⟨z0, hz0⟩ : ∃ z0 : Int, z0 = (k.sz : Int) := ⟨_, rfl⟩
  obtain ⟨p0, hp0⟩ : ∃ p0 : Int, p0 = (p : Int) := ⟨_, rfl⟩
  unfold rdC at o1
  rw [show (((p, 0) : St).1 : Int) = p0 from hp0.symm, show (((p, 0) : St).2 : Int) = 0 from rfl] at o1
  rw [← hp0, ← hz0] at HW
  have HP : Hid (((p + k.sz : Nat) : Int) = p0 + z0) := by unfold Hid; omega
  have HP0 : Hid (p0 = (p : Int)) := hp0
  rw [← hz0] at o1 o2 hfr HS hz ⊢
  clear ho hz0 hu hv hV hbt hc hLx hL h h8 h1 hm hk hp0
  cases m with
  | true =>
    simp only [if_true]
    go_enter Tryz.func61, Tryz.ntmps61
    go_upto_region 1 with fail
    generalize w.alloc (.cells #[.int .i64 z0, .int .u8 wd, .func (.func f) #[] #[]] 98) = w1 at *
    obtain ⟨c0, c1, c2, hf⟩ := own3 o1
    obtain ⟨d0, d1, d2, hg⟩ := own3 o2
    go_wp2_with fail
    go_quiet ((go_at_call 93; exact Calls.quiet_of_same ((HW.out _).mono fun _ _ h => ⟨h.1, h.2.symm⟩)))
    go_wp2_with fail
    refine (HS.out _).mono ?_
    rintro e w3 ⟨rfl, b3⟩
    replace o1 := (o1.drewN nq).below b3
    replace o2 := (o2.drewN nq).below b3
    replace hfr := (hfr.drewN nq).trans (Fr.of b3)
    clear c0 c1 c2 d0 d1 d2 hf hg b3
    obtain ⟨c0, c1, c2, hf⟩ := own3 o1
    obtain ⟨d0, d1, d2, hg⟩ := own3 o2
    go_wp2_with fail
    refine (HM.out _).mono ?_
    rintro e w4 ⟨rfl, rfl⟩
    have HR : Hid (RdRet r (some ⟨b, off, none⟩) L cap (p + k.sz, 0) w (w3.setCell ⟨r, 1, none⟩ (.int .i64 (p0 + z0)))) := by
      refine ⟨?_, hfr.set (g := r) (.inr rfl) 1 _⟩
      unfold rdC
      rw [show (((p + k.sz, 0) : St).1 : Int) = p0 + z0 from HP.out]
      simpa using o1.set 1 (.int .i64 (p0 + z0))
    clear o1 o2 hfr
    go_wp2
    go_ret
    exact ⟨rfl, HR.out⟩
  | false =>
    simp only [Bool.false_eq_true, if_false]
    go_enter Tryz.func61, Tryz.ntmps61
    go_upto_region 1 with fail
    generalize w.alloc (.cells #[.int .i64 z0, .int .u8 wd, .func (.func f) #[] #[]] 98) = w1 at *
    obtain ⟨c0, c1, c2, hf⟩ := own3 o1
    obtain ⟨d0, d1, d2, hg⟩ := own3 o2
    go_wp2_with fail
    go_quiet ((go_at_call 93; exact Calls.quiet_of_same ((HW.out _).mono fun _ _ h => ⟨h.1, h.2.symm⟩)))
    go_wp2_with fail
    refine (HS.out _).mono ?_
    rintro e w3 ⟨rfl, b3⟩
    replace o1 := (o1.drewN nq).below b3
    replace o2 := (o2.drewN nq).below b3
    replace hfr := (hfr.drewN nq).trans (Fr.of b3)
    clear c0 c1 c2 d0 d1 d2 hf hg b3
    obtain ⟨c0, c1, c2, hf⟩ := own3 o1
    obtain ⟨d0, d1, d2, hg⟩ := own3 o2
    go_wp2_with fail
    refine (HM.out _).mono ?_
    rintro e w4 ⟨rfl, rfl⟩
    have HR : Hid (RdRet r (some ⟨b, off, none⟩) L cap (p, 120) w (w3.setCell ⟨r, 2, none⟩ (.int .i64 120))) := by
      refine ⟨?_, hfr.set (g := r) (.inr rfl) 2 _⟩
      unfold rdC
      rw [show (((p, 120) : St).1 : Int) = p0 from HP0.out.symm]
      simpa using o1.set 2 (.int .i64 120)
    clear o1 o2 hfr
    go_wp2
    go_ret
    exact ⟨rfl, HR.out⟩
/-- number: at every state. -/
theorem rnum_as {k : Nm} {wd : Int} {f : Nat} (hk : NumIs k wd f) {w : World} {r : Nat} {a : Option Addr} {L cap : Nat} {xs : List Nat} (s : St) (ho : Own w r (rdC a L cap s) 104) (hl : Lies w a xs) (hL : L = xs.length) (hs : s.1 ≤ L) :
    Calls Tryz.prog 61 #[ptr r, numV k.sz wd f] w fun e w' => e = .returned (.int .i64 (k.rd xs s).1) ∧ RdRet r a L cap (k.rd xs s).2 w w' := by
  have hm := hl.2.1
  unfold Nm.rd
  by_cases h1 : s.2 ≠ 0 ∨ k.sz = 0
  · rw [if_pos h1]; exact rnum_skip s ho h1
  · rw [if_neg h1]
    obtain ⟨p, e⟩ := s
    simp only [not_or, Classical.not_not] at h1
    obtain ⟨he, hz⟩ := h1
    subst he
    by_cases h2 : xs.length < p + k.sz
    · rw [if_pos h2]; exact rnum_short p ho (by omega) hk.ok.sz hs (by omega) (by omega)
    · rw [if_neg h2]
      rcases hl.2.2 with h0 | ⟨b, off, rfl, hc⟩
      · subst h0; simp at h2; omega
      · have := rnum_read hk p ho (by omega) hl.1 hc hL (by omega) (by omega) _ rfl
        by_cases h3 : k.may (k.val (wid ((xs.drop p).take k.sz))) = true
        · rw [if_pos h3, if_pos h3] at this; rw [if_pos h3]; exact this
        · rw [if_neg h3, if_neg h3] at this; rw [if_neg h3]; exact this
theorem rd_le {k : Nm} {xs : List Nat} {s : St} (hs : s.1 ≤ xs.length) : (k.rd xs s).2.1 ≤ xs.length := by
  unfold Nm.rd
  split
  · exact hs
  · split
    · exact hs
    · split
      · show s.1 + k.sz ≤ _; omega
      · exact hs
end Go.Proofs.YtkmmnocooibljaaGreatDoor
