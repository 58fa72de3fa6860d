/-
  THE LINES OF A CODE.
-/
import Derived.Test.YtkmmnocooibljaaGreatDoorJna
import Derived.Test.YtkmmnocooibljaaGreatDoorAlq
namespace Go.Proofs.YtkmmnocooibljaaGreatDoor
open Go.RowKit Go.Maps
set_option linter.unusedVariables false
set_option linter.unusedSimpArgs false

theorem may_n64 {k : Nm} (h : k.Ok) {n : Int} (hm : k.may n = true) : N64 n := by
  unfold Nm.may at hm
  simp only [decide_eq_true_eq] at hm
  have := h.l64
  have := h.h64
  unfold N64
  omega
theorem ok_num {x : In} (h : x.ok = true) (h8 : x.op < 256) : Num x ∧ x.arms.length ≤ 65535 := by
  unfold In.ok at h
  cases hl : lay x.op with
  | none => rw [hl] at h; cases h
  | some l =>
    rw [hl] at h
    simp only at h
    have hk := (lay_ok hl).1
    simp only [Lay.has, Lay.hasArms, Bool.and_eq_true] at h
    obtain ⟨h1, h2, h3⟩ := h
    refine ⟨⟨h8, may_n64 hk.a h1, may_n64 hk.b h2, fun y hy => ?_⟩, ?_⟩
    · split at h3
      · simp only [Bool.and_eq_true, List.all_eq_true, decide_eq_true_eq] at h3
        exact ⟨may_n64 (okVal _) (h3.2 y hy).1, may_n64 okPlace (h3.2 y hy).2⟩
      · rw [List.isEmpty_iff.1 h3] at hy; cases hy
    · split at h3
      · simp only [Bool.and_eq_true, decide_eq_true_eq] at h3
        exact h3.1
      · rw [List.isEmpty_iff.1 h3]; simp
theorem allR_len (xs : List Nat) : ∀ f p, (allR xs f p).1.length ≤ f ∧ (allR xs f p).2.1.length = (allR xs f p).1.length := by
  intro f
  induction f with
  | zero => intro p; simp [allR]
  | succ f ih =>
    intro p
    unfold allR
    split
    · simp
    · simp only
      split
      · simp
      · split
        · simp
        · have := ih (dec xs p).2.1
          simp only [List.length_cons]
          omega
theorem allD_ok {xs : List Nat} (hb : ∀ c ∈ xs, c < 256) (h : (allD xs).2.2 = 0) : ∀ x ∈ (allD xs).1, Num x ∧ x.arms.length ≤ 65535 := fun x hx => by
  have hd : allR xs xs.length 0 = ((allD xs).1, (allD xs).2.1, 0) := by
    show allD xs = _
    exact Prod.ext rfl (Prod.ext rfl h)
  have := (allR_dec xs hb _ 0 _ _ hd (Nat.zero_le _) (by omega)).2.2 x hx
  exact ok_num this.1 this.2
theorem linesA_len (xs : List Nat) : (linesA xs).1.length ≤ 2 * xs.length + 1 := by
  unfold linesA
  split
  · simp
  · split
    · simp
    · split
      · simp only
        have h1 := allR_len xs xs.length 0
        have h2 := fold_len (headsL (allD xs).1) ((allD xs).1.zip (allD xs).2.1)
        have h3 := reachM_len (headsL (allD xs).1) (((allD xs).1.zip (allD xs).2.1).foldl (stepM (headsL (allD xs).1)) ([], 0)) (xs.length : Int)
        have h4 : ((allD xs).1.zip (allD xs).2.1).length ≤ (allD xs).1.length := by rw [List.length_zip]; exact Nat.min_le_left _ _
        have h5 : (allD xs).1.length ≤ xs.length := h1.1
        unfold linesM
        omega
      · simp
theorem allT_small {xs : List Nat} (hL : xs.length ≤ 65536) (hn : ∀ x ∈ (allD xs).1, Num x ∧ x.arms.length ≤ 65535) : (allT (allD xs).1).length ≤ 100000000000 := by
  have h1 := allT_bound _ 65536 (fun x hx => by have := (hn x hx).2; omega)
  have h2 : (allD xs).1.length ≤ 65536 := Nat.le_trans (allR_len xs xs.length 0).1 hL
  have : (allD xs).1.length * 65536 ≤ 65536 * 65536 := Nat.mul_le_mul_right _ h2
  omega
theorem linesA_num {xs : List Nat} (hb : ∀ c ∈ xs, c < 256) : ∀ z ∈ (linesA xs).1, N64 z.1 ∧ Num z.2 ∧ z.2.arms.length ≤ 350000 := by
  intro z hz
  have h0 : N64 0 := by constructor <;> omega
  unfold linesA at hz
  split at hz
  · cases hz
  · rename_i h1
    split at hz
    · cases hz
    · rename_i h2
      split at hz
      · simp only at hz
        have hn := allD_ok hb (Classical.not_not.1 h2)
        have hH : (headsL (allD xs).1).length ≤ 100000000000 := Nat.le_trans (headsL_length _) (allT_small (by omega) hn)
        rcases linesM_mem _ _ _ hz with ⟨m, hm2, rfl⟩ | ⟨y, hy, rfl⟩
        · have h4 : ((allD xs).1.zip (allD xs).2.1).length ≤ (allD xs).1.length := by rw [List.length_zip]; exact Nat.min_le_left _ _
          have h5 : (allD xs).1.length ≤ xs.length := (allR_len xs xs.length 0).1
          exact ⟨by unfold N64; omega, ⟨by simp [zI], h0, h0, fun z q => by simp [zI] at q⟩, by simp [zI]⟩
        · obtain ⟨y1, y2⟩ := y
          have := hn _ (List.of_mem_zip hy).1
          exact ⟨h0, atI_num this.1 (numF_n64 hH), by simp only; rw [(atI_arms _ _).2]; omega⟩
      · cases hz
/-- Lines that a call answers, as lines that came in. -/
theorem nrm_in2 {w : World} {r : List (Int × In) × Nat} {e : Ending} {w' : World} (h : NrmR w r e w') (hn : ∀ z ∈ r.1, N64 z.1 ∧ Num z.2 ∧ z.2.arms.length ≤ 350000) (hl : r.1.length ≤ 1000000) : ∃ a c xs, e = .returned (.tuple #[.slice a r.1.length c, .int .i64 (r.2 : Int)]) ∧ xs.length = r.1.length ∧ LnsIn w' a xs ∧ xs.map LnP.l = r.1 ∧ (∀ y ∈ xs, y.ao = none → y.cp = 0) ∧ (∀ y ∈ xs, y.x.arms.length ≤ 350000) ∧ Below w.heap.size w w' := by
  obtain ⟨vo, ps, rfl, hps, hrow, hb⟩ := h
  have hlen : ps.length = r.1.length := by rw [← hps, List.length_map]
  have hm : ∀ y ∈ ps, N64 y.1 ∧ Num y.2.1 ∧ y.2.1.arms.length ≤ 350000 := fun y hy => hn (qL y) (by rw [← hps]; exact List.mem_map.2 ⟨y, hy, rfl⟩)
  obtain ⟨a, c, rfl, h1, h2⟩ := lnrow_in hrow (fun y hy => ⟨(hm y hy).1, (hm y hy).2.1, Nat.le_trans (hm y hy).2.2 (by omega)⟩) (by omega)
  exact ⟨a, c, ps.map toLn, by rw [hlen], by rw [List.length_map, hlen], h1, by rw [toLn_l, hps], h2, fun y hy => by obtain ⟨z, hz, rfl⟩ := List.mem_map.1 hy; exact (hm z hz).2.2, hb⟩
set_option maxHeartbeats 4000000 in
set_option maxRecDepth 100000 in
theorem lnLines_as {w : World} {a : Option Addr} {L cap : Nat} {xs : List Nat} (hl : Lies w a xs) (hL : L = xs.length) (hmax : L ≤ 1000000) :
    Calls Tryz.prog 24 #[.slice a L cap] w (NrmR w (linesA xs)) := by
  by_cases hbig : 65536 < L
  · have hR : linesA xs = ([], 3) := by unfold linesA; rw [if_pos (by omega)]
    rw [hR]
    have hbI : (65536 : Int) < (L : Int) := by omega
    clear hl hL hR
    go_enter Tryz.func24, Tryz.ntmps24
    go_wp2
    go_ret2
    exact ⟨_, [], rfl, rfl, LnRow.nil _ _, Below.refl _ _⟩
  · have hbI : ¬ (65536 : Int) < (L : Int) := by omega
    have HAL : Hid (Calls Tryz.prog 56 #[.slice a L cap] w (AllRet w (allD xs))) := all_as hl hL hmax
    have hb := hl.1
    have hR : linesA xs = if (allD xs).2.2 ≠ 0 then ([], (allD xs).2.2) else
      if (linesM (headsL (allD xs).1) ((allD xs).1.zip (allD xs).2.1) (xs.length : Int)).2 = (headsL (allD xs).1).length then ((linesM (headsL (allD xs).1) ((allD xs).1.zip (allD xs).2.1) (xs.length : Int)).1, 0) else ([], 190) := by unfold linesA; rw [if_neg (by omega)]
    by_cases her : (allD xs).2.2 = 0
    · have hn := allD_ok hb her
      have hT := allT_small (by omega) hn
      have hlen := allR_len xs xs.length 0
      have HIL : Hid ((allD xs).1.length ≤ 1000000 ∧ (∀ x ∈ (allD xs).1, Num x ∧ x.arms.length ≤ 900000) ∧ (allT (allD xs).1).length ≤ 100000000000 ∧ (allD xs).2.1.length = (allD xs).1.length) := ⟨by have : (allD xs).1.length ≤ xs.length := hlen.1; omega, fun x hx => ⟨(hn x hx).1, by have := (hn x hx).2; omega⟩, hT, hlen.2⟩
      rw [if_neg (by simp [her])] at hR
      rw [hR]
      rw [← hL]
      have HER : Hid ((allD xs).2.2 = 0) := her
      clear hR hn hT hlen hl hb her hL
      generalize allD xs = AD at *
      obtain ⟨IL, PL, ER⟩ := AD
      simp only at HIL HER ⊢
      obtain rfl : ER = 0 := HER.out
      clear HER
      obtain ⟨ANS, hANS⟩ : ∃ ANS, (if (linesM (headsL IL) (IL.zip PL) (L : Int)).2 = (headsL IL).length then ((linesM (headsL IL) (IL.zip PL) (L : Int)).1, 0) else ([], 190)) = ANS := ⟨_, rfl⟩
      have HANS : Hid ((if (linesM (headsL IL) (IL.zip PL) (L : Int)).2 = (headsL IL).length then ((linesM (headsL IL) (IL.zip PL) (L : Int)).1, 0) else ([], 190)) = ANS) := hANS
      rw [hANS]
      clear hANS
      go_enter Tryz.func24, Tryz.ntmps24
      go_wp2_with (first | (refine Calls.mono HAL.out ?_) | fail)
      rintro e w4 ⟨vl, vp, ps, rfl, hps, hrow, hints, hin, b4⟩
      simp only at hps hints ⊢
      have HB4 : Hid (Below w.heap.size w w4) := b4
      have HLI : Hid (Calls Tryz.prog 42 #[.agg #[vl, vp, .int .i64 (L : Int)]] w4 (LinR w4 (linesM (headsL IL) (IL.zip PL) (L : Int)) (headsL IL).length)) := by
        have h1 := HIL.out
        rw [← hps] at h1 ⊢
        rw [List.length_map] at h1
        exact lnlines_as hrow hints (fun y hy => h1.2.1 _ (List.mem_map.2 ⟨y, hy, rfl⟩)) h1.2.2.2 h1.1 h1.2.2.1
      obtain ⟨al, cl, rfl, -⟩ := hrow.row.shape
      obtain ⟨ap, cpp, rfl, -⟩ := hints.shape
      clear hps hrow hints hin b4 HAL HIL
      generalize linesM (headsL IL) (IL.zip PL) (L : Int) = R at *
      generalize (headsL IL).length = HL at *
      go_wp2_with (first | (refine Calls.mono HLI.out ?_) | fail)
      rintro e w5 ⟨vo, qs, rfl, hqs, hr5, b5⟩
      have HB5 : Hid (Below w.heap.size w w5) := HB4.out.trans (b5.mono HB4.out.size)
      have HRW : Hid (LnRow w5 w.heap.size vo qs ∧ qs.map qL = R.1) := ⟨⟨hr5.row, fun b e => Nat.le_trans HB4.out.size (hr5.new b e), fun y hy => ⟨(hr5.arms y hy).1, fun b e => Nat.le_trans HB4.out.size ((hr5.arms y hy).2 b e)⟩⟩, hqs⟩
      clear HLI hqs hr5 b5 HB4
      by_cases hok : R.2 = HL
      · have hd : decide (R.2 = HL) = true := by simp [hok]
        have hA : ANS = (R.1, 0) := by rw [← HANS.out, if_pos hok]
        rw [hd]
        clear hd hok HANS
        subst hA
        go_wp2
        go_ret2
        exact ⟨vo, qs, rfl, HRW.out.2, HRW.out.1, HB5.out⟩
      · have hd : decide (R.2 = HL) = false := by simp [hok]
        have hA : ANS = ([], 190) := by rw [← HANS.out, if_neg hok]
        rw [hd]
        clear hd hok HANS
        subst hA
        go_wp2
        go_ret2
        exact ⟨_, [], rfl, rfl, LnRow.nil _ _, HB5.out⟩
    · rw [if_pos her] at hR
      rw [hR]
      have hr1 : (((allD xs).2.2 : Int) == 0) = false := by rw [beq_eq_false_iff_ne]; omega
      have hr2 : (((allD xs).2.2 : Int) != 0) = true := by simp [bne, hr1]
      clear hR hl hb hL
      generalize allD xs = AD at *
      obtain ⟨IL, PL, ER⟩ := AD
      simp only at her hr1 hr2 ⊢
      go_enter Tryz.func24, Tryz.ntmps24
      go_wp2_with (first | (refine Calls.mono HAL.out ?_) | fail)
      rintro e w4 ⟨vl, vp, ps, rfl, hps, hrow, hints, hin, b4⟩
      simp only at hps hints ⊢
      have HB4 : Hid (Below w.heap.size w w4) := b4
      clear hps hrow hints hin b4 HAL
      go_wp2
      go_ret2
      exact ⟨_, [], rfl, rfl, LnRow.nil _ _, HB4.out⟩
end Go.Proofs.YtkmmnocooibljaaGreatDoor
