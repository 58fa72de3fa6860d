/-
  CONTRACTS of number.signed and of the reader's number.
  CONTRACT of the reader's arms.
  CONTRACT of the landed Decode.
-/
import Derived.Test.YtjfdlphkmpkjdaaDoorLy
import Derived.Test.YtjfdlphkmpkjdaaDoorWi
import Derived.Deep.QuietTactic
import Derived.BigQuiet
import Derived.Deep.RegionHeld3
import Derived.Deep.LoopGhost
namespace Go.Proofs.YtjfdlphkmpkjdaaDoor
open Go.RowKit
set_option linter.unusedVariables false

theorem val_in {k : Nm} {wd : Int} {f : Nat} (hk : NumIs k wd f) (u : Nat) (hu : u < 256 ^ k.sz) : -9223372036854775808 ≤ k.val u ∧ k.val u ≤ 9223372036854775807 := by
  have h8 := hk.ok.sz
  have hp : 256 ^ k.sz ≤ 256 ^ 8 := Nat.pow_le_pow_right (by omega) h8
  unfold Nm.val
  rcases hk.w with ⟨h1, _, h2⟩ | ⟨h1, h2⟩
  · have hp4 : 256 ^ k.sz ≤ 256 ^ 4 := Nat.pow_le_pow_right (by omega) h2
    rw [if_neg (by rw [h1]; simp)]; omega
  · have e : ((256 : Int) ^ k.sz) = ((256 ^ k.sz : Nat) : Int) := by simp
    rw [e]
    simp only [h1, true_and]
    generalize 256 ^ k.sz = P at *
    split <;> omega
set_option maxHeartbeats 1000000 in
theorem signed_as {k : Nm} {wd : Int} {f : Nat} (hk : NumIs k wd f) (u : Nat) (hu : u < 256 ^ k.sz) (n : Int) (hn : n = wrap64 (u : Int)) (w : World) :
    Calls Tryd.prog 64 #[numV k.sz wd f, .int .i64 n] w fun e w' => e = .returned (.int .i64 (k.val u)) ∧ Below w.heap.size w w' := by
  rcases hk.w with ⟨h1, rfl, h2⟩ | ⟨h1, ⟨rfl, h2⟩ | ⟨rfl, h2⟩ | ⟨rfl, h2⟩⟩
  · have e : n = k.val u := by
      have hp4 : 256 ^ k.sz ≤ 256 ^ 4 := Nat.pow_le_pow_right (by omega) h2
      unfold Nm.val
      rw [if_neg (by rw [h1]; simp), hn]; unfold wrap64; omega
    rw [← e]
    clear hn hu e h1 h2 hk
    generalize (k.sz : Int) = z
    go_enter Tryd.func64, Tryd.ntmps64
    go_wp2
    go_ret
    exact ⟨rfl, new_below _ _⟩
  · have e : wr8 n = k.val u := by
      unfold Nm.val
      rw [h2] at hu ⊢
      rw [hn]; unfold wrap64 wr8; simp only [h1, true_and]; split <;> omega
    rw [← e]
    clear hn hu e h1 h2 hk
    generalize (k.sz : Int) = z
    go_enter Tryd.func64, Tryd.ntmps64
    go_wp2_with fail
    refine (wrap1 n _).mono ?_
    rintro e w1 ⟨rfl, rfl⟩
    go_wp2
    go_ret
    exact ⟨rfl, new_below _ _⟩
  · have e : wr32 n = k.val u := by
      unfold Nm.val
      rw [h2] at hu ⊢
      rw [hn]; unfold wrap64 wr32; simp only [h1, true_and]; split <;> omega
    rw [← e]
    clear hn hu e h1 h2 hk
    generalize (k.sz : Int) = z
    go_enter Tryd.func64, Tryd.ntmps64
    go_wp2_with fail
    refine (wrap2 n _).mono ?_
    rintro e w1 ⟨rfl, rfl⟩
    go_wp2
    go_ret
    exact ⟨rfl, new_below _ _⟩
  · have e : n = k.val u := by
      unfold Nm.val
      rw [h2] at hu ⊢
      rw [hn]; unfold wrap64; simp only [h1, true_and]; split <;> omega
    rw [← e]
    clear hn hu e h1 h2 hk
    generalize (k.sz : Int) = z
    go_enter Tryd.func64, Tryd.ntmps64
    go_wp2_with fail
    refine (wrap3 n _).mono ?_
    rintro e w1 ⟨rfl, rfl⟩
    go_wp2
    go_ret
    exact ⟨rfl, new_below _ _⟩

/-! ### The reader -/
abbrev rdC (a : Option Addr) (L cap : Nat) (s : St) : Array Value := #[.slice a L cap, .int .i64 (s.1 : Int), .int .i64 (s.2 : Int)]
/-- What a call of the reader leaves. -/
def RdRet (r : Nat) (a : Option Addr) (L cap : Nat) (s : St) (w w' : World) : Prop := Own w' r (rdC a L cap s) 87 ∧ Fr (fun b => b = r) w w'
set_option maxHeartbeats 1000000 in
theorem rnum_skip {k : Nm} {wd : Int} {f : Nat} {w : World} {r : Nat} {a : Option Addr} {L cap : Nat} (s : St) (ho : Own w r (rdC a L cap s) 87) (h : s.2 ≠ 0 ∨ k.sz = 0) :
    Calls Tryd.prog 37 #[ptr r, numV k.sz wd f] w fun e w' => e = .returned (.int .i64 0) ∧ RdRet r a L cap s w w' := by
  have hr := ho.lt
  have o1 := ho.alloc (.cells #[.int .i64 k.sz, .int .u8 wd, .func (.func f) #[] #[]] 75)
  have o2 := Own.new w #[.int .i64 k.sz, .int .u8 wd, .func (.func f) #[] #[]] 75
  have HR : Hid (RdRet r a L cap s w (w.alloc (.cells #[.int .i64 k.sz, .int .u8 wd, .func (.func f) #[] #[]] 75))) := ⟨o1, (Fr.refl _ w).alloc _⟩
  obtain ⟨q0, hq0⟩ : ∃ q0 : Int, q0 = (s.2 : Int) := ⟨_, rfl⟩
  obtain ⟨z0, hz0⟩ : ∃ z0 : Int, z0 = (k.sz : Int) := ⟨_, rfl⟩
  unfold rdC at o1
  rw [← hq0] at o1
  rw [← hz0] at o1 o2 HR ⊢
  have hh : q0 ≠ 0 ∨ (q0 = 0 ∧ z0 = 0) := by omega
  clear hq0 hz0 ho h
  rcases hh with h1 | ⟨rfl, rfl⟩
  · go_enter Tryd.func37, Tryd.ntmps37
    go_upto_region 1 with fail
    generalize w.alloc (.cells #[.int .i64 z0, .int .u8 wd, .func (.func f) #[] #[]] 75) = w1 at *
    obtain ⟨c0, c1, c2, hf⟩ := own3 o1
    obtain ⟨d0, d1, d2, hg⟩ := own3 o2
    clear o1 o2
    go_wp2
    go_ret
    exact ⟨rfl, HR.out⟩
  · go_enter Tryd.func37, Tryd.ntmps37
    go_upto_region 1 with fail
    generalize w.alloc (.cells #[.int .i64 0, .int .u8 wd, .func (.func f) #[] #[]] 75) = w1 at *
    obtain ⟨c0, c1, c2, hf⟩ := own3 o1
    obtain ⟨d0, d1, d2, hg⟩ := own3 o2
    clear o1 o2
    go_wp2
    go_ret
    exact ⟨rfl, HR.out⟩
set_option maxHeartbeats 2000000 in
set_option maxRecDepth 100000 in
theorem rnum_short {k : Nm} {wd : Int} {f : Nat} {w : World} {r : Nat} {a : Option Addr} {L cap : Nat} (p : Nat) (ho : Own w r (rdC a L cap (p, 0)) 87) (h1 : 1 ≤ k.sz) (h8 : k.sz ≤ 8) (hp : p ≤ L) (hL : L ≤ 9223372036854775807) (h : L < p + k.sz) :
    Calls Tryd.prog 37 #[ptr r, numV k.sz wd f] w fun e w' => e = .returned (.int .i64 0) ∧ RdRet r a L cap (p, 10) w w' := by
  have hr := ho.lt
  have o1 := ho.alloc (.cells #[.int .i64 k.sz, .int .u8 wd, .func (.func f) #[] #[]] 75)
  have o2 := Own.new w #[.int .i64 k.sz, .int .u8 wd, .func (.func f) #[] #[]] 75
  have HR : Hid (∀ n, RdRet r a L cap (p, 10) w (((w.alloc (.cells #[.int .i64 k.sz, .int .u8 wd, .func (.func f) #[] #[]] 75)).drewN n).setCell ⟨r, 2, none⟩ (.int .i64 10))) := by
    intro n
    refine ⟨?_, (((Fr.refl (fun b => b = r) w).alloc _).drewN n).set (g := r) (.inr rfl) 2 _⟩
    have := (o1.drewN n).set 2 (.int .i64 10)
    simpa [rdC] using this
  obtain ⟨z0, hz0⟩ : ∃ z0 : Int, z0 = (k.sz : Int) := ⟨_, rfl⟩
  obtain ⟨p0, hp0⟩ : ∃ p0 : Int, p0 = (p : Int) := ⟨_, rfl⟩
  unfold rdC at o1
  rw [show (((p, 0) : St).1 : Int) = p0 from hp0.symm, show (((p, 0) : St).2 : Int) = 0 from rfl] at o1
  rw [← hz0] at o1 o2 HR ⊢
  have hs : 1 ≤ z0 ∧ z0 ≤ 8 := by omega
  have h0 : 0 ≤ p0 := by omega
  have hle : p0 ≤ L := by omega
  have hsh : (L : Int) - p0 < z0 := by omega
  have hz : (z0 == 0) = false := by simp; omega
  have HW : Hid (∀ (W : World) n, Calls Tryd.prog 63 #[.slice a L cap, .int .i64 p0, .int .i64 z0] (W.drewN n) fun e w' => e = .returned (.tuple #[.int .u64 0, .int .i64 0, .int .i64 10]) ∧ W.drewN n = w') := fun W n => wide_short a L cap p0 z0 (W.drewN n) hL hs h0 hle hsh
  clear ho h hz0 hp0 hs h0 hle hsh h1 h8 hp hL
  go_enter Tryd.func37, Tryd.ntmps37
  go_upto_region 1 with fail
  generalize w.alloc (.cells #[.int .i64 z0, .int .u8 wd, .func (.func f) #[] #[]] 75) = w1 at *
  obtain ⟨c0, c1, c2, hf⟩ := own3 o1
  obtain ⟨d0, d1, d2, hg⟩ := own3 o2
  clear o1 o2
  go_wp2_with fail
  go_quiet ((go_at_call 63; exact Calls.quiet_of_same ((HW.out _ _).mono fun _ _ h => ⟨h.1, h.2.symm⟩)))
  go_wp2
  go_ret
  exact ⟨rfl, HR.out _⟩
theorem take_wid_lt {xs : List Nat} (hb : ∀ c ∈ xs, c < 256) (p n : Nat) (h : p + n ≤ xs.length) : wid ((xs.drop p).take n) < 256 ^ n := by
  have := wid_lt ((xs.drop p).take n) fun c hc => hb c (List.mem_of_mem_drop (List.mem_of_mem_take hc))
  rwa [List.length_take, List.length_drop, Nat.min_eq_left (by omega)] at this
set_option maxHeartbeats 2000000 in
set_option maxRecDepth 100000 in
theorem rnum_read {k : Nm} {wd : Int} {f : Nat} (hk : NumIs k wd f) {w : World} {r : Nat} {b off L cap : Nat} {xs : List Nat} (p : Nat) (ho : Own w r (rdC (some ⟨b, off, none⟩) L cap (p, 0)) 87) (h1 : 1 ≤ k.sz) (hbt : ∀ c ∈ xs, c < 256)
    (hc : ∀ i, i < xs.length → w.cell? ⟨b, off + i, none⟩ = some (.int .u8 ((xs.getD i 0 : Nat) : Int))) (hLx : L = xs.length) (hL : L ≤ 9223372036854775807) (h : p + k.sz ≤ L) (m : Bool) (hm : k.may (k.val (wid ((xs.drop p).take k.sz))) = m) :
    Calls Tryd.prog 37 #[ptr r, numV k.sz wd f] w fun e w' => e = .returned (.int .i64 (if m = true then k.val (wid ((xs.drop p).take k.sz)) else 0)) ∧ RdRet r (some ⟨b, off, none⟩) L cap (if m = true then (p + k.sz, 0) else (p, 120)) w w' := by
  have hr := ho.lt
  have h8 := hk.ok.sz
  have o1 := ho.alloc (.cells #[.int .i64 k.sz, .int .u8 wd, .func (.func f) #[] #[]] 75)
  have o2 := Own.new w #[.int .i64 k.sz, .int .u8 wd, .func (.func f) #[] #[]] 75
  have hu := take_wid_lt hbt p k.sz (by omega)
  have hfn : ∀ (a : Array Value) (w : World), (callFunc f a).run Tryd.prog w = .ok (.enter f a) w := hk.fn
  have hfr : Fr (fun g => g = r) w (w.alloc (.cells #[.int .i64 k.sz, .int .u8 wd, .func (.func f) #[] #[]] 75)) := (Fr.refl _ w).alloc _
  have HW : Hid (∀ n, Calls Tryd.prog 63 #[.slice (some ⟨b, off, none⟩) L cap, .int .i64 (p : Int), .int .i64 (k.sz : Int)] ((w.alloc (.cells #[.int .i64 k.sz, .int .u8 wd, .func (.func f) #[] #[]] 75)).drewN n) fun e w' => e = .returned (.tuple #[.int .u64 (wid ((xs.drop p).take k.sz) : Nat), .int .i64 ((p : Int) + (k.sz : Int)), .int .i64 0]) ∧ (w.alloc (.cells #[.int .i64 k.sz, .int .u8 wd, .func (.func f) #[] #[]] 75)).drewN n = w') := by
    intro n
    refine wide_row b off L cap xs p k.sz _ hLx hbt hL (fun i hi => ?_) h1 h8 h
    have hci := hc i hi
    rw [← hci]
    exact Below.cell (new_below w _) (World.block_lt_of_cell? w _ hci)
  have HS : Hid (∀ W : World, Calls Tryd.prog 64 #[numV k.sz wd f, .int .i64 (wrap64 ((wid ((xs.drop p).take k.sz) : Nat) : Int))] W fun e w' => e = .returned (.int .i64 (k.val (wid ((xs.drop p).take k.sz)))) ∧ Below W.heap.size W w') := fun W => signed_as hk _ hu _ rfl W
  have hv := val_in hk _ hu
  have HM : Hid (∀ W : World, Calls Tryd.prog f #[.int .i64 (k.val (wid ((xs.drop p).take k.sz)))] W fun e w' => e = .returned (.bool m) ∧ W = w') := fun W => by rw [← hm]; exact hk.may _ W hv.1 hv.2
  have hz : ((k.sz : Int) == 0) = false := by simp; omega
  generalize hV : k.val (wid ((xs.drop p).take k.sz)) = V at *
  generalize wid ((xs.drop p).take k.sz) = U at *
  obtain ⟨z0, hz0⟩ : ∃ z0 : Int, z0 = (k.sz : Int) := ⟨_, rfl⟩
  obtain ⟨p0, hp0⟩ : ∃ p0 : Int, p0 = (p : Int) := ⟨_, rfl⟩
  unfold rdC at o1
  rw [show (((p, 0) : St).1 : Int) = p0 from hp0.symm, show (((p, 0) : St).2 : Int) = 0 from rfl] at o1
  rw [← hp0, ← hz0] at HW
  have HP : Hid (((p + k.sz : Nat) : Int) = p0 + z0) := by unfold Hid; omega
  have HP0 : Hid (p0 = (p : Int)) := hp0
  rw [← hz0] at o1 o2 hfr HS hz ⊢
  clear ho hz0 hu hv hV hbt hc hLx hL h h8 h1 hm hk hp0
  cases m with
  | true =>
    simp only [if_true]
    go_enter Tryd.func37, Tryd.ntmps37
    go_upto_region 1 with fail
    generalize w.alloc (.cells #[.int .i64 z0, .int .u8 wd, .func (.func f) #[] #[]] 75) = w1 at *
    obtain ⟨c0, c1, c2, hf⟩ := own3 o1
    obtain ⟨d0, d1, d2, hg⟩ := own3 o2
    go_wp2_with fail
    go_quiet ((go_at_call 63; exact Calls.quiet_of_same ((HW.out _).mono fun _ _ h => ⟨h.1, h.2.symm⟩)))
    go_wp2_with fail
    refine (HS.out _).mono ?_
    rintro e w3 ⟨rfl, b3⟩
    replace o1 := (o1.drewN nq).below b3
    replace o2 := (o2.drewN nq).below b3
    replace hfr := (hfr.drewN nq).trans (Fr.of b3)
    clear c0 c1 c2 d0 d1 d2 hf hg b3
    obtain ⟨c0, c1, c2, hf⟩ := own3 o1
    obtain ⟨d0, d1, d2, hg⟩ := own3 o2
    go_wp2_with fail
    refine (HM.out _).mono ?_
    rintro e w4 ⟨rfl, rfl⟩
    have HR : Hid (RdRet r (some ⟨b, off, none⟩) L cap (p + k.sz, 0) w (w3.setCell ⟨r, 1, none⟩ (.int .i64 (p0 + z0)))) := by
      refine ⟨?_, hfr.set (g := r) (.inr rfl) 1 _⟩
      unfold rdC
      rw [show (((p + k.sz, 0) : St).1 : Int) = p0 + z0 from HP.out]
      simpa using o1.set 1 (.int .i64 (p0 + z0))
    clear o1 o2 hfr
    go_wp2
    go_ret
    exact ⟨rfl, HR.out⟩
  | false =>
    simp only [Bool.false_eq_true, if_false]
    go_enter Tryd.func37, Tryd.ntmps37
    go_upto_region 1 with fail
    generalize w.alloc (.cells #[.int .i64 z0, .int .u8 wd, .func (.func f) #[] #[]] 75) = w1 at *
    obtain ⟨c0, c1, c2, hf⟩ := own3 o1
    obtain ⟨d0, d1, d2, hg⟩ := own3 o2
    go_wp2_with fail
    go_quiet ((go_at_call 63; exact Calls.quiet_of_same ((HW.out _).mono fun _ _ h => ⟨h.1, h.2.symm⟩)))
    go_wp2_with fail
    refine (HS.out _).mono ?_
    rintro e w3 ⟨rfl, b3⟩
    replace o1 := (o1.drewN nq).below b3
    replace o2 := (o2.drewN nq).below b3
    replace hfr := (hfr.drewN nq).trans (Fr.of b3)
    clear c0 c1 c2 d0 d1 d2 hf hg b3
    obtain ⟨c0, c1, c2, hf⟩ := own3 o1
    obtain ⟨d0, d1, d2, hg⟩ := own3 o2
    go_wp2_with fail
    refine (HM.out _).mono ?_
    rintro e w4 ⟨rfl, rfl⟩
    have HR : Hid (RdRet r (some ⟨b, off, none⟩) L cap (p, 120) w (w3.setCell ⟨r, 2, none⟩ (.int .i64 120))) := by
      refine ⟨?_, hfr.set (g := r) (.inr rfl) 2 _⟩
      unfold rdC
      rw [show (((p, 120) : St).1 : Int) = p0 from HP0.out.symm]
      simpa using o1.set 2 (.int .i64 120)
    clear o1 o2 hfr
    go_wp2
    go_ret
    exact ⟨rfl, HR.out⟩
/-- number: at every state. -/
theorem rnum_as {k : Nm} {wd : Int} {f : Nat} (hk : NumIs k wd f) {w : World} {r : Nat} {a : Option Addr} {L cap : Nat} {xs : List Nat} (s : St) (ho : Own w r (rdC a L cap s) 87) (hl : Lies w a xs) (hL : L = xs.length) (hs : s.1 ≤ L) :
    Calls Tryd.prog 37 #[ptr r, numV k.sz wd f] w fun e w' => e = .returned (.int .i64 (k.rd xs s).1) ∧ RdRet r a L cap (k.rd xs s).2 w w' := by
  have hm := hl.2.1
  unfold Nm.rd
  by_cases h1 : s.2 ≠ 0 ∨ k.sz = 0
  · rw [if_pos h1]; exact rnum_skip s ho h1
  · rw [if_neg h1]
    obtain ⟨p, e⟩ := s
    simp only [not_or, Classical.not_not] at h1
    obtain ⟨he, hz⟩ := h1
    subst he
    by_cases h2 : xs.length < p + k.sz
    · rw [if_pos h2]; exact rnum_short p ho (by omega) hk.ok.sz hs (by omega) (by omega)
    · rw [if_neg h2]
      rcases hl.2.2 with h0 | ⟨b, off, rfl, hc⟩
      · subst h0; simp at h2; omega
      · have := rnum_read hk p ho (by omega) hl.1 hc hL (by omega) (by omega) _ rfl
        by_cases h3 : k.may (k.val (wid ((xs.drop p).take k.sz))) = true
        · rw [if_pos h3, if_pos h3] at this; rw [if_pos h3]; exact this
        · rw [if_neg h3, if_neg h3] at this; rw [if_neg h3]; exact this
theorem rd_le {k : Nm} {xs : List Nat} {s : St} (hs : s.1 ≤ xs.length) : (k.rd xs s).2.1 ≤ xs.length := by
  unfold Nm.rd
  split
  · exact hs
  · split
    · exact hs
    · split
      · show s.1 + k.sz ≤ _; omega
      · exact hs
end Go.Proofs.YtjfdlphkmpkjdaaDoor
namespace Go.Proofs.YtjfdlphkmpkjdaaDoor
open Go.RowKit
set_option linter.unusedVariables false

def armC (ar : List (Int × Int)) : List Value := (ar.map fun y => [Value.int .i64 y.1, .int .i64 y.2]).flatten
theorem armC_append (x y : List (Int × Int)) : armC (x ++ y) = armC x ++ armC y := by simp [armC]
theorem armC_length (x : List (Int × Int)) : (armC x).length = x.length * 2 := by
  induction x with
  | nil => rfl
  | cons y r ih =>
    have e : armC (y :: r) = .int .i64 y.1 :: .int .i64 y.2 :: armC r := rfl
    rw [e, List.length_cons, List.length_cons, List.length_cons, ih]; omega
theorem armC_one (x : List (Int × Int)) : ∀ u ∈ armC x, u.oneCell' = true := by
  intro u hu
  unfold armC at hu
  obtain ⟨l, hl, hu⟩ := List.mem_flatten.1 hu
  obtain ⟨y, _, rfl⟩ := List.mem_map.1 hl
  simp at hu
  rcases hu with rfl | rfl <;> rfl
theorem armC_get (x : List (Int × Int)) (i : Nat) (h : i < x.length) : (armC x)[i * 2]? = some (.int .i64 (x.getD i (0, 0)).1) ∧ (armC x)[i * 2 + 1]? = some (.int .i64 (x.getD i (0, 0)).2) := by
  induction x generalizing i with
  | nil => cases h
  | cons y r ih =>
    have e : armC (y :: r) = .int .i64 y.1 :: .int .i64 y.2 :: armC r := rfl
    rw [e]
    cases i with
    | zero => exact ⟨rfl, rfl⟩
    | succ i =>
      have := ih i (by simpa using h)
      rw [show (i + 1) * 2 = i * 2 + 1 + 1 by omega]
      simpa using this
def joinA (acc : List (Int × Int)) (q : List (Int × Int) × St) : List (Int × Int) × St := if q.2.2 ≠ 0 then ([], q.2) else (acc ++ q.1, q.2)
theorem joinA_nil (k : Nm) (xs : List Nat) (n : Nat) (s : St) : armsR k xs n s = joinA [] (armsR k xs n s) := by
  unfold joinA
  split
  · rename_i h
    cases n with
    | zero => rfl
    | succ n =>
      unfold armsR at h ⊢
      simp only at h ⊢
      split
      · rfl
      · rename_i h1
        rw [if_neg h1] at h
        split
        · rfl
        · rename_i h2; rw [if_neg h2] at h; exact absurd h h2
  · simp
theorem joinA_bad {k : Nm} {xs : List Nat} {n : Nat} {s : St} {acc : List (Int × Int)} (h : (nPlace.rd xs (k.rd xs s).2).2.2 ≠ 0) : joinA acc (armsR k xs (n + 1) s) = ([], (nPlace.rd xs (k.rd xs s).2).2) := by
  have e : armsR k xs (n + 1) s = ([], (nPlace.rd xs (k.rd xs s).2).2) := by unfold armsR; simp only; rw [if_pos h]
  rw [e]; unfold joinA; rw [if_pos h]
theorem joinA_good {k : Nm} {xs : List Nat} {n : Nat} {s : St} {acc : List (Int × Int)} (h : (nPlace.rd xs (k.rd xs s).2).2.2 = 0) : joinA acc (armsR k xs (n + 1) s) = joinA (acc ++ [((k.rd xs s).1, (nPlace.rd xs (k.rd xs s).2).1)]) (armsR k xs n (nPlace.rd xs (k.rd xs s).2).2) := by
  conv => lhs; unfold armsR
  simp only
  rw [if_neg (by omega)]
  unfold joinA
  by_cases h2 : (armsR k xs n (nPlace.rd xs (k.rd xs s).2).2).2.2 ≠ 0
  · rw [if_pos h2, if_pos h2, if_pos h2]
  · rw [if_neg h2, if_neg h2, if_neg h2]; simp
theorem rd_number {k : Nm} {wd : Int} {f : Nat} (hk : NumIs k wd f) (xs : List Nat) (hb : ∀ c ∈ xs, c < 256) (s : St) : -9223372036854775808 ≤ (k.rd xs s).1 ∧ (k.rd xs s).1 ≤ 9223372036854775807 := by
  unfold Nm.rd
  split
  · exact ⟨by simp, by simp⟩
  · split
    · exact ⟨by simp, by simp⟩
    · rename_i h1
      split
      · exact val_in hk _ (take_wid_lt hb _ _ (by omega))
      · exact ⟨by simp, by simp⟩
theorem short_rd (xs : List Nat) (s : St) : 0 ≤ (nShort.rd xs s).1 ∧ (nShort.rd xs s).1 ≤ 65535 := by
  unfold Nm.rd
  split
  · exact ⟨by simp, by simp⟩
  · split
    · exact ⟨by simp, by simp⟩
    · split
      · rename_i h; exact of_decide_eq_true h
      · exact ⟨by simp, by simp⟩
theorem place_rd (xs : List Nat) (s : St) : 0 ≤ (nPlace.rd xs s).1 ∧ (nPlace.rd xs s).1 ≤ 4294967295 := by
  unfold Nm.rd
  split
  · exact ⟨by simp, by simp⟩
  · split
    · exact ⟨by simp, by simp⟩
    · split
      · rename_i h; exact of_decide_eq_true h
      · exact ⟨by simp, by simp⟩
structure ArRel (w : World) (r : Nat) (a : Option Addr) (L cap : Nat) (k : Nm) (f : Nat) (xs : List Nat) (g6 g7 n : Nat) (R : List (Int × Int) × St) (g : Nat) (v i : Value) (wr : World) : Prop where
  ex : ∃ (acc : List (Int × Int)) (s1 : St), acc.length + g = n ∧ i = .int .i64 (acc.length : Int) ∧ Rw wr 44 2 v acc.length (armC acc) ∧ (∀ b, v.ownBlock = some b → w.heap.size ≤ b) ∧ s1.1 ≤ xs.length ∧ (s1.2 ≠ 0 → g = 0 ∧ acc = []) ∧
    Own wr r (rdC a L cap s1) 87 ∧ R = joinA acc (armsR k xs g s1)
  o6 : Own wr g6 #[.int .i64 8, .int .u8 3, .func (.func f) #[] #[]] 75
  o7 : Own wr g7 #[.int .i64 4, .int .u8 0, .func (.func 82) #[] #[]] 75
  fr : Fr (fun b => b = r) w wr
def ArRet (w : World) (r : Nat) (a : Option Addr) (L cap : Nat) (R : List (Int × Int) × St) (e : Ending) (w' : World) : Prop :=
  ∃ v, e = .returned v ∧ Rw w' 44 2 v R.1.length (armC R.1) ∧ (∀ b, v.ownBlock = some b → w.heap.size ≤ b) ∧ RdRet r a L cap R.2 w w'
theorem take_lit {l : List Oper} {Q : Exit → Act → World → Prop} {md : Region.Mode} {S : World → Prop} {i : Nat} {oi : Oper} {v : Value} {fuel : Nat} {listed : Array Bool} {a : Act} {w : World} (hi : l[i]? = some oi)
    (hs : Region.noSelect l.toArray = true) (hf : Region.free md l.toArray listed i = true) (hr : (Region.ready md l.toArray listed).contains i = true)
    (hQ : ∀ c a w, Q (.panic c) (a.put oi.dst v) w → Q (.panic c) a w) (hy : YieldsIf Tryd.prog l.toArray S oi v a) (hS : S w)
    (h : wpAnyH Tryd.prog md l.toArray Q S fuel (listed.setIfInBounds i true) (a.put oi.dst v) w) : wpAnyH Tryd.prog md l.toArray Q S (fuel + 1) listed a w :=
  wpAnyH_take (by simpa using hi) hs hf hr hQ hy hS h
theorem ready_lit {l : List Oper} {Q : Exit → Act → World → Prop} {md : Region.Mode} {S : World → Prop} {fuel : Nat} {listed : Array Bool} {a : Act} {w : World} {i : Nat} {o : Oper} (ho : l[i]? = some o)
    (h : ∀ K' : Act → World → Prop, Shut (∀ a w, S w → (S w → wpAnyH Tryd.prog md l.toArray Q S fuel (listed.setIfInBounds i true) a w) → K' a w) → if Region.wanted o (yielded l.toArray a.tmps) = true then Oper.wp Tryd.prog o a w K' Q else K' (a.put o.dst undef) w) :
    AllReadyH Tryd.prog md l.toArray Q S fuel listed a w [i] :=
  AllReadyH.cons (by simpa using ho) h AllReadyH.nil
theorem ready_lit2 {l : List Oper} {Q : Exit → Act → World → Prop} {md : Region.Mode} {S : World → Prop} {fuel : Nat} {listed : Array Bool} {a : Act} {w : World} {i j : Nat} {o p : Oper} (ho : l[i]? = some o)
    (h : ∀ K' : Act → World → Prop, Shut (∀ a w, S w → (S w → wpAnyH Tryd.prog md l.toArray Q S fuel (listed.setIfInBounds i true) a w) → K' a w) → if Region.wanted o (yielded l.toArray a.tmps) = true then Oper.wp Tryd.prog o a w K' Q else K' (a.put o.dst undef) w)
    (hp : l[j]? = some p)
    (h2 : ∀ K' : Act → World → Prop, Shut (∀ a w, S w → (S w → wpAnyH Tryd.prog md l.toArray Q S fuel (listed.setIfInBounds j true) a w) → K' a w) → if Region.wanted p (yielded l.toArray a.tmps) = true then Oper.wp Tryd.prog p a w K' Q else K' (a.put p.dst undef) w) :
    AllReadyH Tryd.prog md l.toArray Q S fuel listed a w [i, j] :=
  AllReadyH.cons (by simpa using ho) h (AllReadyH.cons (by simpa using hp) h2 AllReadyH.nil)
theorem Own.set2 {w : World} {g : Nat} {t : TypeId} {a b : Value} (h : Own w g #[a, b] t) (x y : Int) : Own ((w.setCell ⟨g, 0, none⟩ (.int .i64 x)).setCell ⟨g, 1, none⟩ (.int .i64 y)) g #[.int .i64 x, .int .i64 y] t := by
  have := (h.set 0 (.int .i64 x)).set 1 (.int .i64 y)
  simpa using this
/-- What stands in a round of the reading of arms. -/
structure Env (r : Nat) (a : Option Addr) (L cap f g6 g7 : Nat) (v : Value) (acc : List (Int × Int)) (w5 : World) (xs : List Nat) (s : St) (W : World) : Prop where
  own : Own W r (rdC a L cap s) 87
  o6 : Own W g6 #[.int .i64 8, .int .u8 3, .func (.func f) #[] #[]] 75
  o7 : Own W g7 #[.int .i64 4, .int .u8 0, .func (.func 82) #[] #[]] 75
  row : Rw W 44 2 v acc.length (armC acc)
  fr : Fr (fun b => b = r) w5 W
  lies : Lies W a xs
theorem Env.drew {r : Nat} {a : Option Addr} {L cap f g6 g7 : Nat} {v : Value} {acc : List (Int × Int)} {w5 : World} {xs : List Nat} {s : St} {W : World} (h : Env r a L cap f g6 g7 v acc w5 xs s W) : Env r a L cap f g6 g7 v acc w5 xs s W.drew := ⟨h.own.drew, h.o6.drew, h.o7.drew, h.row.drew, h.fr.drew, h.lies⟩
theorem Env.alloc {r : Nat} {a : Option Addr} {L cap f g6 g7 : Nat} {v : Value} {acc : List (Int × Int)} {w5 : World} {xs : List Nat} {s : St} {W : World} (h : Env r a L cap f g6 g7 v acc w5 xs s W) (o : Obj) : Env r a L cap f g6 g7 v acc w5 xs s (W.alloc o) :=
  ⟨h.own.alloc o, h.o6.alloc o, h.o7.alloc o, h.row.alloc o, h.fr.alloc o, h.lies.fr (F := fun _ => False) ((Fr.refl _ W).alloc o) (fun _ _ _ q => q)⟩
theorem Env.call {r : Nat} {a : Option Addr} {L cap f g6 g7 : Nat} {v : Value} {acc : List (Int × Int)} {w5 : World} {xs : List Nat} {s s' : St} {W W' : World} (h : Env r a L cap f g6 g7 v acc w5 xs s W) (ha : ∀ b off, a = some ⟨b, off, none⟩ → ¬ b = r) (h6 : ¬ g6 = r) (h7 : ¬ g7 = r)
    (hr : RdRet r a L cap s' W W') : Env r a L cap f g6 g7 v acc w5 xs s' W' :=
  ⟨hr.1, h.o6.fr hr.2 h6, h.o7.fr hr.2 h7, h.row.fr hr.2 (fun b q e => h.row.ne h.own (by decide) (by rw [q, e])), h.fr.trans hr.2, h.lies.fr hr.2 ha⟩
theorem Env.new2 {r : Nat} {a : Option Addr} {L cap f g6 g7 : Nat} {v : Value} {acc : List (Int × Int)} {w5 : World} {xs : List Nat} {s : St} {W : World} (h : Env r a L cap f g6 g7 v acc w5 xs s W) {g : Nat} (hn : Own W g #[.int .i64 0, .int .i64 0] 44) (x y : Int) (hg : w5.heap.size ≤ g) (ha : ∀ b off, a = some ⟨b, off, none⟩ → xs ≠ [] → b < w5.heap.size) (hv : ∀ b, v.ownBlock = some b → b ≠ g) :
    Env r a L cap f g6 g7 v acc w5 xs s ((W.setCell ⟨g, 0, none⟩ (.int .i64 x)).setCell ⟨g, 1, none⟩ (.int .i64 y)) := by
  have f1 : Fr (fun b => b = g) W ((W.setCell ⟨g, 0, none⟩ (.int .i64 x)).setCell ⟨g, 1, none⟩ (.int .i64 y)) := ((Fr.refl (fun b => b = g) W).set (g := g) (.inr rfl) 0 _).set (g := g) (.inr rfl) 1 _
  refine ⟨h.own.fr f1 (fun e => h.own.ne hn (by decide) e), h.o6.fr f1 (fun e => h.o6.ne hn (by decide) e), h.o7.fr f1 (fun e => h.o7.ne hn (by decide) e), h.row.fr f1 (fun b q e => hv b q e), (h.fr.set (g := g) (.inl hg) 0 _).set (g := g) (.inl hg) 1 _, ?_⟩
  refine ⟨h.lies.1, h.lies.2.1, ?_⟩
  rcases h.lies.2.2 with h0 | ⟨b, off, rfl, hc⟩
  · exact .inl h0
  · by_cases hx : xs = []
    · exact .inl hx
    · exact (h.lies.fr f1 (fun b' off' e q => by cases e; have := ha b off rfl hx; omega)).2.2
theorem Env.cells {r : Nat} {a : Option Addr} {L cap f g6 g7 : Nat} {v : Value} {acc : List (Int × Int)} {w5 : World} {xs : List Nat} {s : St} {W : World} (h : Env r a L cap f g6 g7 v acc w5 xs s W) :
    W.cell? ⟨g6, 0, none⟩ = some (.int .i64 8) ∧ W.cell? ⟨g6, 1, none⟩ = some (.int .u8 3) ∧ W.cell? ⟨g6, 2, none⟩ = some (.func (.func f) #[] #[]) ∧ W.cell? ⟨g7, 0, none⟩ = some (.int .i64 4) ∧ W.cell? ⟨g7, 1, none⟩ = some (.int .u8 0) ∧ W.cell? ⟨g7, 2, none⟩ = some (.func (.func 82) #[] #[]) :=
  ⟨h.o6.cell 0, h.o6.cell 1, h.o6.cell 2, h.o7.cell 0, h.o7.cell 1, h.o7.cell 2⟩
set_option maxHeartbeats 4000000 in
set_option maxRecDepth 100000 in
theorem rarms_as (x : Int) (hx : x = 0 ∨ x = 1 ∨ x = 2 ∨ x = 3) {w : World} {r : Nat} {a : Option Addr} {L cap : Nat} {xs : List Nat} (s : St) (ho : Own w r (rdC a L cap s) 87) (hl : Lies w a xs) (hL : L = xs.length) (hs : s.1 ≤ L) (ha : ∀ b off, a = some ⟨b, off, none⟩ → ¬ b = r) :
    Calls Tryd.prog 38 #[ptr r, .int .u8 x] w (ArRet w r a L cap (armsR (nVal x) xs (nShort.rd xs s).1.toNat (nShort.rd xs s).2)) := by
  obtain ⟨f, hf, hval⟩ := value_as x hx
  obtain ⟨R, HRR⟩ : ∃ R, Hid (armsR (nVal x) xs (nShort.rd xs s).1.toNat (nShort.rd xs s).2 = R) := ⟨_, rfl⟩
  rw [HRR.out]
  have hrl := ho.lt
  have HA : Hid (∀ b off, a = some ⟨b, off, none⟩ → ¬ b = r) := ha
  have h8 : (nVal x).sz = 8 := val_sz x
  have HL : Hid (L = xs.length) := hL
  have hsx : s.1 ≤ xs.length := by omega
  have hn1 := short_rd xs s
  obtain ⟨n, hn⟩ : ∃ n : Nat, (nShort.rd xs s).1 = (n : Int) := Int.eq_ofNat_of_zero_le hn1.1
  have hn65 : n ≤ 65535 := by omega
  have HN : Hid ((nShort.rd xs s).1 = (n : Int)) := hn
  clear ha hn1 hn hx hs hL
  go_enter Tryd.func38, Tryd.ntmps38
  go_wp2_with fail
  refine (hval _).mono ?_
  rintro e w1 ⟨rfl, b1⟩
  replace ho := ho.below b1
  replace hl := hl.fr (F := fun _ => False) (Fr.of b1) (fun _ _ _ q => q)
  have hfr : Fr (fun b => b = r) w w1 := Fr.of b1
  clear b1 hval
  go_wp2_with fail
  refine (place_any _).mono ?_
  rintro e w2 ⟨rfl, b2⟩
  replace ho := ho.below b2
  replace hl := hl.fr (F := fun _ => False) (Fr.of b2) (fun _ _ _ q => q)
  replace hfr := hfr.trans (Fr.of b2)
  clear b2
  have o6 := (Own.new w2 #[.int .i64 8, .int .u8 3, .func (.func f) #[] #[]] 75).alloc (.cells #[.int .i64 4, .int .u8 0, .func (.func 82) #[] #[]] 75)
  have o7 := Own.new (w2.alloc (.cells #[.int .i64 8, .int .u8 3, .func (.func f) #[] #[]] 75)) #[.int .i64 4, .int .u8 0, .func (.func 82) #[] #[]] 75
  rw [World.size_alloc] at o7
  replace ho := (ho.alloc (.cells #[.int .i64 8, .int .u8 3, .func (.func f) #[] #[]] 75)).alloc (.cells #[.int .i64 4, .int .u8 0, .func (.func 82) #[] #[]] 75)
  have hfr3 := (hfr.alloc (.cells #[.int .i64 8, .int .u8 3, .func (.func f) #[] #[]] 75)).alloc (.cells #[.int .i64 4, .int .u8 0, .func (.func 82) #[] #[]] 75)
  replace hl := hl.fr (F := fun _ => False) (((Fr.refl _ w2).alloc (.cells #[.int .i64 8, .int .u8 3, .func (.func f) #[] #[]] 75)).alloc (.cells #[.int .i64 4, .int .u8 0, .func (.func 82) #[] #[]] 75)) (fun _ _ _ q => q)
  have hws := hfr.size
  have hr6 : ¬ w2.heap.size = r := by omega
  have hr7 : ¬ w2.heap.size + 1 = r := by omega
  clear hfr
  go_upto_region 3 with fail
  generalize (w2.alloc (.cells #[.int .i64 8, .int .u8 3, .func (.func f) #[] #[]] 75)).alloc (.cells #[.int .i64 4, .int .u8 0, .func (.func 82) #[] #[]] 75) = w3 at *
  go_wp2_with fail
  refine (short_any _).mono ?_
  rintro e w4 ⟨rfl, b4⟩
  replace ho := ho.below b4
  replace o6 := o6.below b4
  replace o7 := o7.below b4
  replace hl := hl.fr (F := fun _ => False) (Fr.of b4) (fun _ _ _ q => q)
  replace hfr3 := hfr3.trans (Fr.of b4)
  clear b4
  go_wp2_with fail
  refine (rnum_as numShort s ho hl HL.out (by rw [HL.out]; exact hsx)).mono ?_
  rintro e w5 ⟨rfl, ho5, f5⟩
  rw [HN.out]
  replace o6 := o6.fr f5 hr6
  replace o7 := o7.fr f5 hr7
  replace hl := hl.fr f5 HA.out
  replace hfr3 := hfr3.trans f5
  have hs5 : (nShort.rd xs s).2.1 ≤ xs.length := rd_le hsx
  have hbad : (nShort.rd xs s).2.2 ≠ 0 → n = 0 := by
    intro hb
    have : (nShort.rd xs s).1 = 0 := by
      revert hb
      unfold Nm.rd
      split
      · intro _; rfl
      · split
        · intro _; rfl
        · split
          · intro q; exact absurd rfl q
          · intro _; rfl
    have := HN.out; omega
  have HRR2 : Hid (R = armsR (nVal x) xs n (nShort.rd xs s).2) := by unfold Hid; rw [← HRR.out, HN.out, Int.toNat_natCast]
  clear HRR
  generalize (nShort.rd xs s).2 = s5 at *
  clear f5 ho
  have REL : Hid (ArRel w5 r a L cap (nVal x) f xs w2.heap.size (w2.heap.size + 1) n R n (.slice none 0 0) (.int .i64 0) w5) :=
    ⟨⟨[], s5, by simp, rfl, World.ownsRow_nil _ _ _ _, by simp [Value.ownBlock], hs5, fun q => ⟨hbad q, rfl⟩, ho5, HRR2.out.trans (joinA_nil _ _ _ _)⟩, o6, o7, Fr.refl _ _⟩
  have hLies : Hid (Lies w5 a xs) := hl
  have HF5 : Hid (Fr (fun b => b = r) w w5) := hfr3
  have HLW : Hid (∀ wr, Fr (fun b => b = r) w5 wr → Lies wr a xs) := fun wr hq => hl.fr hq HA.out
  clear ho5 o6 o7 hfr3 hl hs5 hbad HN
  go_wp2_with fail
  go_loopg [5, 15] n (fun g v i wr => ArRel w5 r a L cap (nVal x) f xs w2.heap.size (w2.heap.size + 1) n R g v i wr)
  case atStart => exact REL.out
  case round =>
    obtain ⟨⟨acc, s1, hlen, rfl, hrow, hnew, hsl, hbd, ho, hR⟩, o6, o7, hf5⟩ := hrel
    have hfr := HF5.out.trans hf5
    have hlr := HLW.out wr hf5
    obtain ⟨ao, cp, rfl, -⟩ := hrow.shape
    cases gk with
    | zero =>
      have hd : decide ((acc.length : Int) < n) = false := by simp; omega
      have hR2 : R = (acc, s1) := by
        rw [hR]; unfold joinA armsR
        by_cases q : s1.2 ≠ 0
        · rw [if_pos q, (hbd q).2]
        · rw [if_neg q]; simp
      have HZ : Hid (ArRet w r a L cap R (.returned (.slice ao acc.length cp)) wr) := by
        rw [Hid, hR2]; exact ⟨_, rfl, hrow, fun b q => Nat.le_trans HF5.out.size (hnew b q), ho, hfr⟩
      clear hR hR2 hrow hnew ho o6 o7 hfr hf5 hlr hbd hlen hsl REL HF5 HLW hLies
      generalize (acc.length : Int) = K at *
      go_wp2
      go_ret
      exact HZ.out
    | succ gk =>
      have hs0 : s1.2 = 0 := by
        by_cases q : s1.2 = 0
        · exact q
        · exact absurd (hbd q).1 (by omega)
      have hd : decide ((acc.length : Int) < n) = true := by simp; omega
      have hfk := hf
      cases e1 : (nVal x).rd xs s1 with
      | mk V1 s2 =>
      cases e2 : nPlace.rd xs s2 with
      | mk V2 s3 =>
      have hs2 : s2.1 ≤ xs.length := by have := rd_le (k := nVal x) hsl; rw [e1] at this; exact this
      have hs3 : s3.1 ≤ xs.length := by have := rd_le (k := nPlace) hs2; rw [e2] at this; exact this
      have C1 : Hid (∀ W, Own W r (rdC a L cap s1) 87 → Lies W a xs → Calls Tryd.prog 37 #[ptr r, numV 8 3 f] W fun e w' => e = .returned (.int .i64 V1) ∧ RdRet r a L cap s2 W w') := by
        intro W h1 h2
        have := rnum_as hf s1 h1 h2 HL.out (by rw [HL.out]; exact hsl)
        rw [e1, h8] at this
        exact this
      have C2 : Hid (∀ W, Own W r (rdC a L cap s2) 87 → Lies W a xs → Calls Tryd.prog 37 #[ptr r, numV 4 0 82] W fun e w' => e = .returned (.int .i64 V2) ∧ RdRet r a L cap s3 W w') := by
        intro W h1 h2
        have := rnum_as numPlace s2 h1 h2 HL.out (by rw [HL.out]; exact hs2)
        rw [e2] at this
        exact this
      have hbig : acc.length < 65535 := by omega
      have HG : Hid (s3.2 = 0 → R = joinA (acc ++ [(V1, V2)]) (armsR (nVal x) xs gk s3)) := by
        intro q
        have := joinA_good (k := nVal x) (xs := xs) (n := gk) (s := s1) (acc := acc) (by rw [e1, e2]; exact q)
        rw [e1] at this
        simp only [e2] at this
        rw [hR, this]
      have HB : Hid (s3.2 ≠ 0 → R = ([], s3)) := by
        intro q
        have := joinA_bad (k := nVal x) (xs := xs) (n := gk) (s := s1) (acc := acc) (by rw [e1, e2]; exact q)
        rw [e1] at this
        simp only [e2] at this
        rw [hR, this]
      have HLEN : Hid (acc.length + (gk + 1) = n) := hlen
      have HNEW : Hid (∀ b, (Value.slice ao acc.length cp).ownBlock = some b → w5.heap.size ≤ b) := hnew
      have E0 : Env r a L cap f w2.heap.size (w2.heap.size + 1) (.slice ao acc.length cp) acc w5 xs s1 wr.drew := Env.drew ⟨ho, o6, o7, hrow, hf5, hlr⟩
      have hlt : acc.length < n := by omega
      have hwr : r < wr.heap.size := ho.lt
      have hz := E0.cells
      have HAB : Hid (∀ b off, a = some ⟨b, off, none⟩ → xs ≠ [] → b < w5.heap.size) := by
        intro b off e hx
        rcases hLies.out.2.2 with h0 | ⟨b', off', e', hc⟩
        · exact absurd h0 hx
        · rw [e] at e'; cases e'; exact World.block_lt_of_cell? w5 _ (hc 0 (List.length_pos_iff.2 hx))
      have hwn : ¬ wr.heap.size = r := by omega
      have HFW : Hid (Fr (fun b => b = r) w w5) := HF5.out
      clear hR hbd hlen hnew ho hlr hrow hf5 hfr o6 o7 REL HF5 hLies hs0 e1 e2 hd
      go_upto_region 5 with fail
      go_cut [8] from 16 to 33 (fun q wx => ∃ g, q = .pointer (some ⟨g, 0, none⟩) ∧ Own wx g #[.int .i64 V1, .int .i64 V2] 44 ∧ Env r a L cap f w2.heap.size (w2.heap.size + 1) (.slice ao acc.length cp) acc w5 xs s3 wx ∧ ¬ g = r)
      case first =>
        /- REGION5 -/
        refine wp_region_noPanic ?_
        refine wp_region_held_drew (S := fun w' => w'.cell? ⟨w2.heap.size, 0, none⟩ = some (.int .i64 8) ∧ w'.cell? ⟨w2.heap.size, 1, none⟩ = some (.int .u8 3) ∧ w'.cell? ⟨w2.heap.size, 2, none⟩ = some (.func (.func f) #[] #[]) ∧ w'.cell? ⟨w2.heap.size + 1, 0, none⟩ = some (.int .i64 4) ∧ w'.cell? ⟨w2.heap.size + 1, 1, none⟩ = some (.int .u8 0) ∧ w'.cell? ⟨w2.heap.size + 1, 2, none⟩ = some (.func (.func 82) #[] #[])) (by kernel_rfl) hz (fun hS0 => ?_)
        clear hS0
        refine take_lit (i := 0) (v := ?_) rfl (by kernel_rfl) (by kernel_rfl) (by kernel_rfl) (fun _ _ _ h => h) (Or.inl ⟨by rfl, ?_⟩) hz ?_
        rotate_left 1
        · (intro w' hSw; obtain ⟨z0, z1, z2, z3, z4, z5⟩ := hSw; go_simp <;> with_reducible rfl)
        try simp only [Act.put, List.setIfInBounds_toArray, List.set_cons_zero, List.set_cons_succ]
        refine take_lit (i := 1) (v := ?_) rfl (by kernel_rfl) (by kernel_rfl) (by kernel_rfl) (fun _ _ _ h => h) (Or.inl ⟨by rfl, ?_⟩) hz ?_
        rotate_left 1
        · (intro w' hSw; obtain ⟨z0, z1, z2, z3, z4, z5⟩ := hSw; go_simp <;> with_reducible rfl)
        try simp only [Act.put, List.setIfInBounds_toArray, List.set_cons_zero, List.set_cons_succ]
        refine take_lit (i := 3) (v := ?_) rfl (by kernel_rfl) (by kernel_rfl) (by kernel_rfl) (fun _ _ _ h => h) (Or.inl ⟨by rfl, ?_⟩) hz ?_
        rotate_left 1
        · (intro w' hSw; obtain ⟨z0, z1, z2, z3, z4, z5⟩ := hSw; go_simp <;> with_reducible rfl)
        try simp only [Act.put, List.setIfInBounds_toArray, List.set_cons_zero, List.set_cons_succ]
        refine take_lit (i := 4) (v := ?_) rfl (by kernel_rfl) (by kernel_rfl) (by kernel_rfl) (fun _ _ _ h => h) (Or.inl ⟨by rfl, ?_⟩) hz ?_
        rotate_left 1
        · (intro w' hSw; obtain ⟨z0, z1, z2, z3, z4, z5⟩ := hSw; go_simp <;> with_reducible rfl)
        try simp only [Act.put, List.setIfInBounds_toArray, List.set_cons_zero, List.set_cons_succ]
        refine wpAnyH_ready (rs := [2, 7]) (by kernel_rfl) (by simp) ?_
        refine ready_lit2 rfl ?_ rfl ?_
        · intro K hK
          go_simp
          refine (C1.out _ (E0).own (E0).lies).mono ?_
          rintro en wA ⟨rfl, rA⟩
          have EA := Env.call (E0) HA.out hr6 hr7 rA
          go_wp2_with fail
          refine hK.out _ _ EA.cells (fun hHeld => ?_)
          clear hK K hHeld
          try simp only [Act.put, List.setIfInBounds_toArray, List.set_cons_zero, List.set_cons_succ]
          refine wpAnyH_ready (rs := [5, 7]) (by kernel_rfl) (by simp) ?_
          refine ready_lit2 rfl ?_ rfl ?_
          · intro K hK
            go_simp
            refine (C2.out _ (EA).own (EA).lies).mono ?_
            rintro en wB ⟨rfl, rB⟩
            have EB := Env.call (EA) HA.out hr6 hr7 rB
            go_wp2_with fail
            refine hK.out _ _ EB.cells (fun hHeld => ?_)
            clear hK K hHeld
            try simp only [Act.put, List.setIfInBounds_toArray, List.set_cons_zero, List.set_cons_succ]
            refine take_lit (i := 6) (v := ?_) rfl (by kernel_rfl) (by kernel_rfl) (by kernel_rfl) (fun _ _ _ h => h) (Or.inl ⟨by rfl, ?_⟩) EB.cells ?_
            rotate_left 1
            · (intro w' hSw; obtain ⟨z0, z1, z2, z3, z4, z5⟩ := hSw; go_simp <;> with_reducible rfl)
            try simp only [Act.put, List.setIfInBounds_toArray, List.set_cons_zero, List.set_cons_succ]
            refine wpAnyH_ready (rs := [7]) (by kernel_rfl) (by simp) ?_
            refine ready_lit rfl ?_
            intro K hK
            go_simp
            refine hK.out _ _ (EB.alloc _).cells (fun hHeld => ?_)
            clear hK K hHeld
            try simp only [Act.put, List.setIfInBounds_toArray, List.set_cons_zero, List.set_cons_succ]
            refine wpAnyH_ready (rs := [8]) (by kernel_rfl) (by simp) ?_
            refine ready_lit rfl ?_
            intro K hK
            go_simp
            refine hK.out _ _ (EB.alloc _).cells (fun hHeld => ?_)
            clear hK K hHeld
            try simp only [Act.put, List.setIfInBounds_toArray, List.set_cons_zero, List.set_cons_succ]
            refine wpAnyH_done (by kernel_rfl) ?_ _
            refine NoPanic.normal ?_
            go_wp2_with fail
            go_meet
            exact ⟨_, rfl, Own.new wB _ _, EB.alloc _, by have := EB.own.lt; omega⟩
          · intro K hK
            go_simp
            refine hK.out _ _ (EA.alloc _).cells (fun hHeld => ?_)
            clear hK K hHeld
            try simp only [Act.put, List.setIfInBounds_toArray, List.set_cons_zero, List.set_cons_succ]
            refine wpAnyH_ready (rs := [5]) (by kernel_rfl) (by simp) ?_
            refine ready_lit rfl ?_
            intro K hK
            go_simp
            refine (C2.out _ (EA.alloc _).own (EA.alloc _).lies).mono ?_
            rintro en wB ⟨rfl, rB⟩
            have EB := Env.call (EA.alloc _) HA.out hr6 hr7 rB
            go_wp2_with fail
            refine hK.out _ _ EB.cells (fun hHeld => ?_)
            clear hK K hHeld
            try simp only [Act.put, List.setIfInBounds_toArray, List.set_cons_zero, List.set_cons_succ]
            have nB := (Own.new wA #[.int .i64 0, .int .i64 0] 44).fr rB.2 (show ¬ wA.heap.size = r by have := rA.1.lt; omega)
            obtain ⟨m0, m1, mf⟩ := own2 nB
            refine take_lit (i := 6) (v := ?_) rfl (by kernel_rfl) (by kernel_rfl) (by kernel_rfl) (fun _ _ _ h => h) (Or.inl ⟨by rfl, ?_⟩) EB.cells ?_
            rotate_left 1
            · (intro w' hSw; obtain ⟨z0, z1, z2, z3, z4, z5⟩ := hSw; go_simp <;> with_reducible rfl)
            try simp only [Act.put, List.setIfInBounds_toArray, List.set_cons_zero, List.set_cons_succ]
            refine wpAnyH_ready (rs := [8]) (by kernel_rfl) (by simp) ?_
            refine ready_lit rfl ?_
            have ES := EB.new2 nB V1 V2 (Nat.le_trans E0.fr.size rA.2.size) HAB.out (fun b q => by have := E0.row.lt q; have := rA.2.size; simp at *; omega)
            intro K hK
            go_simp
            refine hK.out _ _ ES.cells (fun hHeld => ?_)
            clear hK K hHeld
            try simp only [Act.put, List.setIfInBounds_toArray, List.set_cons_zero, List.set_cons_succ]
            refine wpAnyH_done (by kernel_rfl) ?_ _
            refine NoPanic.normal ?_
            go_wp2_with fail
            go_meet
            exact ⟨_, rfl, (nB.set2 V1 V2), ES, by have := EA.own.lt; omega⟩
        · intro K hK
          go_simp
          refine hK.out _ _ (E0.alloc _).cells (fun hHeld => ?_)
          clear hK K hHeld
          try simp only [Act.put, List.setIfInBounds_toArray, List.set_cons_zero, List.set_cons_succ]
          refine wpAnyH_ready (rs := [2]) (by kernel_rfl) (by simp) ?_
          refine ready_lit rfl ?_
          intro K hK
          go_simp
          refine (C1.out _ (E0.alloc _).own (E0.alloc _).lies).mono ?_
          rintro en wA ⟨rfl, rA⟩
          have EA := Env.call (E0.alloc _) HA.out hr6 hr7 rA
          go_wp2_with fail
          refine hK.out _ _ EA.cells (fun hHeld => ?_)
          clear hK K hHeld
          try simp only [Act.put, List.setIfInBounds_toArray, List.set_cons_zero, List.set_cons_succ]
          have nA : Own wA wr.heap.size #[.int .i64 0, .int .i64 0] 44 := (Own.new wr.drew #[.int .i64 0, .int .i64 0] 44).fr rA.2 hwn
          refine wpAnyH_ready (rs := [5]) (by kernel_rfl) (by simp) ?_
          refine ready_lit rfl ?_
          intro K hK
          go_simp
          refine (C2.out _ (EA).own (EA).lies).mono ?_
          rintro en wB ⟨rfl, rB⟩
          have EB := Env.call (EA) HA.out hr6 hr7 rB
          go_wp2_with fail
          refine hK.out _ _ EB.cells (fun hHeld => ?_)
          clear hK K hHeld
          try simp only [Act.put, List.setIfInBounds_toArray, List.set_cons_zero, List.set_cons_succ]
          have nB : Own wB wr.heap.size #[.int .i64 0, .int .i64 0] 44 := nA.fr rB.2 hwn
          obtain ⟨m0, m1, mf⟩ := own2 nB
          refine take_lit (i := 6) (v := ?_) rfl (by kernel_rfl) (by kernel_rfl) (by kernel_rfl) (fun _ _ _ h => h) (Or.inl ⟨by rfl, ?_⟩) EB.cells ?_
          rotate_left 1
          · (intro w' hSw; obtain ⟨z0, z1, z2, z3, z4, z5⟩ := hSw; go_simp <;> with_reducible rfl)
          try simp only [Act.put, List.setIfInBounds_toArray, List.set_cons_zero, List.set_cons_succ]
          refine wpAnyH_ready (rs := [8]) (by kernel_rfl) (by simp) ?_
          refine ready_lit rfl ?_
          have ES := EB.new2 nB V1 V2 E0.fr.size HAB.out (fun b q => by have := E0.row.lt q; simp at *; omega)
          intro K hK
          go_simp
          refine hK.out _ _ ES.cells (fun hHeld => ?_)
          clear hK K hHeld
          try simp only [Act.put, List.setIfInBounds_toArray, List.set_cons_zero, List.set_cons_succ]
          refine wpAnyH_done (by kernel_rfl) ?_ _
          refine NoPanic.normal ?_
          go_wp2_with fail
          go_meet
          exact ⟨_, rfl, (nB.set2 V1 V2), ES, hwn⟩
      case rest =>
        obtain ⟨g, rfl, hg, EC, hgr⟩ := hcut
        clear E0 hz
        obtain ⟨c0, c1, c2, cf⟩ := own3 EC.own
        obtain ⟨t0, t1, tf⟩ := own2 hg
        by_cases hs3z : s3.2 = 0
        · have hq : (s3.2 : Int) = 0 := by omega
          rw [hq] at c2
          have oB := Own.new wc #[.int .i64 V1, .int .i64 V2] 44
          have rB := EC.row.alloc (.cells #[.int .i64 V1, .int .i64 V2] 44)
          have EB := EC.alloc (.cells #[.int .i64 V1, .int .i64 V2] 44)
          have hRne : ∀ b, (Value.slice ao acc.length cp).ownBlock = some b → ¬ b = r := fun b q e => EC.row.ne EC.own (by decide) (by rw [q, e])
          have HN2 : Hid (∀ wz ao2 cp2, (wc.alloc (.cells #[.int .i64 V1, .int .i64 V2] 44)).grownBy wz (Value.slice ao acc.length cp).ownBlock → Rw wz 44 2 (.slice ao2 (acc.length + 1) cp2) (acc.length + 1) (armC acc ++ [.int .i64 V1, .int .i64 V2]) → ((Value.slice ao2 (acc.length + 1) cp2).ownBlock = (Value.slice ao acc.length cp).ownBlock ∨ (Value.slice ao2 (acc.length + 1) cp2).ownBlock = some (wc.heap.size + 1)) →
              ArRel w5 r a L cap (nVal x) f xs w2.heap.size (w2.heap.size + 1) n R gk (.slice ao2 (acc.length + 1) cp2) (.int .i64 ((acc.length : Int) + 1)) wz) := by
            intro wz ao2 cp2 q1 q2 q3
            have hF : ∀ b, b < w5.heap.size → (Value.slice ao acc.length cp).ownBlock = some b → b = r := by
              intro b hb e
              have := HNEW.out b e; omega
            have e6 : ∀ {g : Nat} {cs : Array Value} {t : TypeId}, Own (wc.alloc (.cells #[.int .i64 V1, .int .i64 V2] 44)) g cs t → 44 ≠ t → Own wz g cs t := fun {g cs t} h ht => h.grown q1 (fun e => rB.ne h ht e.symm)
            refine ⟨⟨acc ++ [(V1, V2)], s3, by have := HLEN.out; simp; omega, by simp, ?_, ?_, hs3, fun q => absurd hs3z q, e6 EB.own (by decide), HG.out hs3z⟩, e6 EB.o6 (by decide), e6 EB.o7 (by decide), EB.fr.grown q1 hF⟩
            · rw [armC_append, List.length_append]; exact q2
            · intro b q
              rcases q3 with q3 | q3
              · exact HNEW.out b (by rw [← q3]; exact q)
              · have hs5 := EC.fr.size
                rw [q3] at q; cases q; omega
          clear EC
          go_wp2_with (refine wpList_app1 okA (by rfl) (.tmp 29) (.tmp 31) (by rfl) _ acc.length (armC acc) (by rfl) rB wc.heap.size [.int .i64 V1, .int .i64 V2] (by rfl) oB rfl (by simp [Value.oneCell']) (by omega) ?_; intro ao2 cp2 wz q1 q2 q3; have HO : Hid _ := HN2.out wz ao2 cp2 q2 q1 (by simpa using q3); clear q1 q2 q3)
          go_roundg gk
          case measure => omega
          case rel => exact HO.out
        · have hq : (((s3.2 : Nat) : Int) == 0) = false := by simp; omega
          have HZ : Hid (ArRet w r a L cap R (.returned (.slice none 0 0)) wc) := by
            unfold Hid
            rw [HB.out hs3z]
            exact ⟨_, rfl, World.ownsRow_nil _ _ _ _, by simp [Value.ownBlock], EC.own, HFW.out.trans EC.fr⟩
          generalize (s3.2 : Int) = Z at *
          clear EC
          go_wp2
          go_ret
          exact HZ.out
end Go.Proofs.YtjfdlphkmpkjdaaDoor
namespace Go.Proofs.YtjfdlphkmpkjdaaDoor
open Go.RowKit
set_option linter.unusedVariables false

abbrev insV (x : In) (v : Value) : Value := .agg #[.int .u8 (x.op : Int), .int .i64 x.a, .int .i64 x.b, v]
/-- What Decode answers. -/
def DecRet (w : World) (R : In × Nat × Nat) (e : Ending) (w' : World) : Prop :=
  ∃ v, e = .returned (.tuple #[insV R.1 v, .int .i64 (R.2.1 : Int), .int .i64 (R.2.2 : Int)]) ∧ Rw w' 44 2 v R.1.arms.length (armC R.1.arms) ∧ (∀ b, v.ownBlock = some b → w.heap.size ≤ b) ∧ Below w.heap.size w w'
abbrev zX : Array Value := #[.int .u8 0, .int .i64 0, .int .i64 0, .slice none 0 0]
theorem dec_out (xs : List Nat) (p : Int) (h : p < 0 ∨ (xs.length : Int) ≤ p) : dec xs p = (zI, 0, 2) := by unfold dec; rw [if_pos h]
set_option maxHeartbeats 1000000 in
theorem dec_bad_place {w : World} {a : Option Addr} {L cap : Nat} {xs : List Nat} (hL : L = xs.length) (p : Int) (h : p < 0 ∨ (xs.length : Int) ≤ p) :
    Calls Tryd.prog 17 #[.slice a L cap, .int .i64 p] w (DecRet w (dec xs p)) := by
  rw [dec_out xs p h, ← hL] at *
  have HZ : Hid (DecRet w (zI, 0, 2) (.returned (.tuple #[.agg zX, .int .i64 0, .int .i64 2])) (w.alloc (.cells zX 24))) := ⟨_, rfl, World.ownsRow_nil _ _ _ _, by simp [Value.ownBlock], new_below _ _⟩
  by_cases h1 : p < 0
  · clear h hL
    go_enter Tryd.func17, Tryd.ntmps17
    go_wp2
    refine bodyPost_cell3 (g := w.heap.size) (t := 24) rfl rfl rfl (heap_alloc_new w _) Tryd.underlying24 rfl (by kernel_rfl) ?_
    exact HZ.out
  · have h2 : (L : Int) ≤ p := by omega
    clear h hL
    go_enter Tryd.func17, Tryd.ntmps17
    go_wp2
    refine bodyPost_cell3 (g := w.heap.size) (t := 24) rfl rfl rfl (heap_alloc_new w _) Tryd.underlying24 rfl (by kernel_rfl) ?_
    exact HZ.out
theorem dec_none (xs : List Nat) (p : Nat) (h : p < xs.length) (hl : lay (xs.getD p 0) = none) : dec xs p = (zI, 0, 120) := by unfold dec; rw [if_neg (by omega), Int.toNat_natCast, hl]
theorem dec_some (xs : List Nat) (p : Nat) (h : p < xs.length) (l : Lay) (hl : lay (xs.getD p 0) = some l) :
    dec xs p = if (l.rd (xs.getD p 0) xs (p + 1, 0)).2.2 ≠ 0 then (zI, 0, (l.rd (xs.getD p 0) xs (p + 1, 0)).2.2) else ((l.rd (xs.getD p 0) xs (p + 1, 0)).1, (l.rd (xs.getD p 0) xs (p + 1, 0)).2.1, 0) := by
  unfold dec; rw [if_neg (by omega), Int.toNat_natCast, hl]
set_option maxHeartbeats 2000000 in
set_option maxRecDepth 100000 in
theorem dec_no_op {w : World} {b off L cap : Nat} {xs : List Nat} (hL : L = xs.length) (p : Nat) (hp : p < L) (c : Nat) (hcc : xs.getD p 0 = c) (hc : w.cell? ⟨b, off + p, none⟩ = some (.int .u8 (c : Int))) (hmax : L ≤ 9223372036854775807)
    (hn : lay c = none) (hcall : ∀ w, Calls Tryd.prog 31 #[.int .u8 (c : Int)] w fun e w' => e = .returned (.tuple #[layZ, .bool false]) ∧ Below w.heap.size w w') :
    Calls Tryd.prog 17 #[.slice (some ⟨b, off, none⟩) L cap, .int .i64 (p : Int)] w (DecRet w (dec xs p)) := by
  rw [dec_none xs p (by omega) (by rw [hcc]; exact hn)]
  have hbl := World.block_lt_of_cell? w _ hc
  have hb : b < w.heap.size := hbl
  have hc2 : (w.alloc (.cells zX 24)).cell? ⟨b, off + p, none⟩ = some (.int .u8 (c : Int)) := (Below.cell (new_below w _) hbl).trans hc
  have o4 := Own.new w zX 24
  have hbel : Below w.heap.size w ((w.alloc (.cells zX 24)).alloc (.cells #[.int .u8 (c : Int), .int .i64 0, .int .i64 0, .slice none 0 0] 24)) := (new_below _ _).alloc (by simp) _
  replace o4 := o4.alloc (.cells #[.int .u8 (c : Int), .int .i64 0, .int .i64 0, .slice none 0 0] 24)
  have oX := Own.new (w.alloc (.cells zX 24)) #[.int .u8 (c : Int), .int .i64 0, .int .i64 0, .slice none 0 0] 24
  rw [World.size_alloc] at oX
  clear hcc hn hc hbl hL
  generalize (c : Int) = C at *
  go_enter Tryd.func17, Tryd.ntmps17
  go_upto_region 4 with fail
  generalize (w.alloc (.cells zX 24)).alloc (.cells #[.int .u8 C, .int .i64 0, .int .i64 0, .slice none 0 0] 24) = w1 at *
  obtain ⟨x0, x1, x2, x3, xf⟩ := own4 oX
  go_wp2_with fail
  refine (hcall _).mono ?_
  rintro e w2 ⟨rfl, b2⟩
  replace o4 := o4.below b2
  replace hbel := hbel.trans (b2.mono hbel.size)
  clear b2 oX x0 x1 x2 x3 xf
  replace o4 := o4.alloc (.cells #[.int .i64 0, .int .u8 0, .nilFunc, .int .i64 0, .int .u8 0, .nilFunc, .bool false] 77)
  replace hbel := hbel.alloc hbel.size (.cells #[.int .i64 0, .int .u8 0, .nilFunc, .int .i64 0, .int .u8 0, .nilFunc, .bool false] 77)
  go_upto_region 5 with fail
  generalize w2.alloc (.cells #[.int .i64 0, .int .u8 0, .nilFunc, .int .i64 0, .int .u8 0, .nilFunc, .bool false] 77) = w3 at *
  go_wp2_with (refine wpList_put rfl 24 (.tmp 4) (.tmp 33) rfl rfl w.heap.size 0 rfl rfl o4 infoX rfl (by simp) rfl ?_; intro wz pz gz)
  refine bodyPost_cell3 (g := w.heap.size) (t := 24) rfl rfl rfl pz Tryd.underlying24 rfl (by kernel_rfl) ?_
  exact ⟨_, rfl, World.ownsRow_nil _ _ _ _, by simp [Value.ownBlock], hbel.grown gz hbel.size (fun k e => by cases e; exact Nat.le_refl _)⟩
end Go.Proofs.YtjfdlphkmpkjdaaDoor
