/-
  THE READER OF AN IMAGE: the mark.
  THE READER OF AN IMAGE: what stands around the body.
-/
import Derived.Test.YtmmbdpdpkkikjaaGreatJla
import Derived.Test.YtmmbdpdpkkikjaaGreatJlc
import Derived.Test.YtmmbdpdpkkikjaaGreatJw
namespace Go.Proofs.YtmmbdpdpkkikjaaGreat
open Go.RowKit
set_option linter.unusedVariables false
set_option linter.unusedSimpArgs false

def mrkL : List Nat := [84, 82, 77, 1]
/-- Where a mark is wrong first. -/
def mrkF (xs : List Nat) : Nat → Nat → Option Nat
  | 0, _ => none
  | g + 1, k => if xs.getD k 0 = mrkL.getD k 0 then mrkF xs g (k + 1) else some k
def mrkR (xs : List Nat) : Option Nat := mrkF xs (min 4 xs.length) 0
set_option maxHeartbeats 2000000 in
set_option maxRecDepth 100000 in
theorem rmark_as {w : World} {r : Nat} {a : Option Addr} {c : Nat} {xs : List Nat} (h : RdAt w r a c xs 0) : Calls Tryz.prog 54 #[ptr r] w fun e w' => (match mrkR xs with
    | some i => e = .panicked (fltV (i : Int) 130)
    | none => e = .returned (.tuple #[])) ∧ RFr r w w' ∧ RdAt w' r a c xs 0 := by
  obtain ⟨R, HR⟩ : ∃ R : Ending → World → Prop, Hid ((fun e w' => (match mrkR xs with
    | some i => e = Ending.panicked (fltV (i : Int) 130)
    | none => e = .returned (.tuple #[])) ∧ RFr r w w' ∧ RdAt w' r a c xs 0) = R) := ⟨_, rfl⟩
  rw [HR.out]
  have H0 : Hid (RdAt w r a c xs 0) := h
  obtain ⟨b, off, rfl⟩ := h.at_
  obtain ⟨x0, x1, xf⟩ := own2 h.own
  have hmx := h.mx
  have hmx2 : (xs.length : Int) ≤ 2097152 := by omega
  have HC : Hid (∀ k, k < xs.length → ∀ W, RFr r w W → W.cell? ⟨b, off + k, none⟩ = some (.int .u8 ((xs.getD k 0 : Nat) : Int))) := fun k hk W hf => by
    rcases (h.lies_fr hf).2.2 with h0 | ⟨b', off', e, hc⟩
    · rw [h0] at hk; cases hk
    · cases e; exact hc k hk
  have HB : Hid (∀ k, xs.getD k 0 < 256) := fun k => by
    by_cases hk : k < xs.length
    · rw [List.getD_eq_getElem?_getD, List.getElem?_eq_getElem hk, Option.getD_some]; exact h.lies.1 _ (List.getElem_mem hk)
    · rw [List.getD_eq_getElem?_getD, List.getElem?_eq_none (by omega), Option.getD_none]; omega
  obtain ⟨N, hN⟩ : ∃ N, min 4 xs.length = N := ⟨_, rfl⟩
  have hNi : min (4 : Int) (xs.length : Int) = (N : Int) := by omega
  have HN : Hid (min 4 xs.length = N) := hN
  have hN4 : N ≤ 4 := by omega
  have hNL : N ≤ xs.length := by omega
  clear h hN
  go_enter Tryz.func54, Tryz.ntmps54
  go_wp2_with fail
  case' inr => rw [show Value.int .i64 4 = .int .i64 (N : Int) from by congr 1; omega]
  case' inl => rw [show Value.int .i64 (xs.length : Int) = .int .i64 (N : Int) from by congr 1; omega]
  all_goals (
    have hLN : (N : Int) ≤ (xs.length : Int) := by omega
    go_loopg [9] N (fun g i wr => ∃ k : Nat, k + g = N ∧ i = .int .i64 (k : Int) ∧ (∃ j, wr = w.drewN j) ∧ mrkR xs = mrkF xs g k)
    case atStart => exact ⟨0, by omega, rfl, ⟨0, rfl⟩, by unfold mrkR; rw [HN.out]⟩
    case round =>
      clear x0 x1 xf
      obtain ⟨k, hk, rfl, ⟨jd, rfl⟩, hM⟩ := hrel
      cases gk with
      | zero =>
        obtain rfl : k = N := by omega
        have HZ : Hid (R (.returned (.tuple #[])) (w.drewN jd)) := by
          rw [Hid, ← HR.out, hM]; exact ⟨rfl, (Fr.refl _ w).drewN jd, H0.out.to ((Fr.refl _ w).drewN jd) (H0.out.own.drewN jd) H0.out.le⟩
        clear hM H0 HC HB HR
        go_wp2_with fail
        exact bodyPost_end (results_none rfl _ _ _) rfl HZ.out
      | succ gq =>
        have hki : (k : Int) < (N : Int) := by omega
        have hkl : (k : Int) < (xs.length : Int) := by omega
        obtain ⟨x0, x1, xf⟩ := own2 (H0.out.own.drewN jd)
        have hcell := HC.out k (by omega) (w.drewN jd) ((Fr.refl _ w).drewN jd)
        have hby := HB.out k
        have hMu : mrkR xs = if xs.getD k 0 = mrkL.getD k 0 then mrkF xs gq (k + 1) else some k := hM
        have HW : Hid (∀ q, RFr r w ((w.drewN jd).drewN q) ∧ RdAt ((w.drewN jd).drewN q) r (some ⟨b, off, none⟩) c xs 0) := fun q => ⟨((Fr.refl _ w).drewN jd).drewN q, H0.out.to (((Fr.refl _ w).drewN jd).drewN q) ((H0.out.own.drewN jd).drewN q) H0.out.le⟩
        have HDr : Hid (∀ q, ∃ j, (w.drewN jd).drewN q = w.drewN j) := fun q => ⟨_, World.drewN_drewN ..⟩
        clear hM
        generalize w.drewN jd = W at *
        generalize xs.getD k 0 = K at *
        have hk4 : k = 0 ∨ k = 1 ∨ k = 2 ∨ k = 3 := by omega
        rcases hk4 with rfl | rfl | rfl | rfl
        · simp only [Nat.add_zero] at hcell
          simp only [Int.natCast_zero, Int.natCast_one] at *
          have hMv : mrkR xs = if K = 84 then mrkF xs gq 1 else some 0 := hMu
          clear hMu
          go_upto_region 3 with fail
          by_cases hK : K = 84
          · subst hK
            have hMw : mrkR xs = mrkF xs gq 1 := hMv
            clear hMv HR H0 HC HB
            go_quiet (fail)
            go_wp2_with fail
            go_roundg gq
            case measure => omega
            case rel => exact ⟨1, by omega, by go_num, HDr.out _, hMw⟩
          · have hC : ∀ q, Calls Tryz.prog 57 #[ptr r, .int .i64 0, .int .i64 130] (W.drewN q) fun e w' => e = .panicked (fltV 0 130) ∧ W.drewN q = w' := fun q => giveUp_as r 0 130 _
            have HZ : Hid (∀ q, R (.panicked (fltV 0 130)) (W.drewN q)) := fun q => by
              rw [← HR.out, hMv, if_neg hK]; exact ⟨rfl, HW.out q⟩
            have hKi : ¬ (K : Int) = 84 := by omega
            have hKb : ((K : Int) == 84) = false := by simp; omega
            have hKn : ((K : Int) != 84) = true := by simp; omega
            clear hMv HR H0 HC HB HW HDr
            have hb : ((⟨#[84, 82, 77, 1]⟩ : ByteArray)[0]'(by decide)).toNat = 84 := rfl
            have hKq : ((K : Int) != ((((⟨#[84, 82, 77, 1]⟩ : ByteArray)[0]'(by decide)).toNat : Nat) : Int)) = true := hKn
            go_quiet (fail)
            go_wp2_with fail
            refine (hC _).mono ?_
            rintro e w2 ⟨rfl, rfl⟩
            clear hC
            go_wp2
            exact ⟨rfl, HZ.out _⟩
        · simp only [Int.natCast_zero, Int.natCast_one] at *
          have hMv : mrkR xs = if K = 82 then mrkF xs gq 2 else some 1 := hMu
          clear hMu
          go_upto_region 3 with fail
          by_cases hK : K = 82
          · subst hK
            have hMw : mrkR xs = mrkF xs gq 2 := hMv
            clear hMv HR H0 HC HB
            go_quiet (fail)
            go_wp2_with fail
            go_roundg gq
            case measure => omega
            case rel => exact ⟨2, by omega, by go_num, HDr.out _, hMw⟩
          · have hC : ∀ q, Calls Tryz.prog 57 #[ptr r, .int .i64 1, .int .i64 130] (W.drewN q) fun e w' => e = .panicked (fltV 1 130) ∧ W.drewN q = w' := fun q => giveUp_as r 1 130 _
            have HZ : Hid (∀ q, R (.panicked (fltV 1 130)) (W.drewN q)) := fun q => by
              rw [← HR.out, hMv, if_neg hK]; exact ⟨rfl, HW.out q⟩
            have hKi : ¬ (K : Int) = 82 := by omega
            have hKb : ((K : Int) == 82) = false := by simp; omega
            have hKn : ((K : Int) != 82) = true := by simp; omega
            clear hMv HR H0 HC HB HW HDr
            have hb : ((⟨#[84, 82, 77, 1]⟩ : ByteArray)[1]'(by decide)).toNat = 82 := rfl
            have hKq : ((K : Int) != ((((⟨#[84, 82, 77, 1]⟩ : ByteArray)[1]'(by decide)).toNat : Nat) : Int)) = true := hKn
            go_quiet (fail)
            go_wp2_with fail
            refine (hC _).mono ?_
            rintro e w2 ⟨rfl, rfl⟩
            clear hC
            go_wp2
            exact ⟨rfl, HZ.out _⟩
        · simp only [Int.natCast_zero, Int.natCast_one] at *
          have hMv : mrkR xs = if K = 77 then mrkF xs gq 3 else some 2 := hMu
          clear hMu
          go_upto_region 3 with fail
          by_cases hK : K = 77
          · subst hK
            have hMw : mrkR xs = mrkF xs gq 3 := hMv
            clear hMv HR H0 HC HB
            go_quiet (fail)
            go_wp2_with fail
            go_roundg gq
            case measure => omega
            case rel => exact ⟨3, by omega, by go_num, HDr.out _, hMw⟩
          · have hC : ∀ q, Calls Tryz.prog 57 #[ptr r, .int .i64 2, .int .i64 130] (W.drewN q) fun e w' => e = .panicked (fltV 2 130) ∧ W.drewN q = w' := fun q => giveUp_as r 2 130 _
            have HZ : Hid (∀ q, R (.panicked (fltV 2 130)) (W.drewN q)) := fun q => by
              rw [← HR.out, hMv, if_neg hK]; exact ⟨rfl, HW.out q⟩
            have hKi : ¬ (K : Int) = 77 := by omega
            have hKb : ((K : Int) == 77) = false := by simp; omega
            have hKn : ((K : Int) != 77) = true := by simp; omega
            clear hMv HR H0 HC HB HW HDr
            have hb : ((⟨#[84, 82, 77, 1]⟩ : ByteArray)[2]'(by decide)).toNat = 77 := rfl
            have hKq : ((K : Int) != ((((⟨#[84, 82, 77, 1]⟩ : ByteArray)[2]'(by decide)).toNat : Nat) : Int)) = true := hKn
            go_quiet (fail)
            go_wp2_with fail
            refine (hC _).mono ?_
            rintro e w2 ⟨rfl, rfl⟩
            clear hC
            go_wp2
            exact ⟨rfl, HZ.out _⟩
        · simp only [Int.natCast_zero, Int.natCast_one] at *
          first
            | (exfalso; omega)
            | (have hMv : mrkR xs = if K = 1 then mrkF xs gq 4 else some 3 := hMu
               clear hMu
               go_upto_region 3 with fail
               by_cases hK : K = 1
               · subst hK
                 have hMw : mrkR xs = mrkF xs gq 4 := hMv
                 clear hMv HR H0 HC HB
                 go_quiet (fail)
                 go_wp2_with fail
                 go_roundg gq
                 case measure => omega
                 case rel => exact ⟨4, by omega, by go_num, HDr.out _, hMw⟩
               · have hC : ∀ q, Calls Tryz.prog 57 #[ptr r, .int .i64 3, .int .i64 130] (W.drewN q) fun e w' => e = .panicked (fltV 3 130) ∧ W.drewN q = w' := fun q => giveUp_as r 3 130 _
                 have HZ : Hid (∀ q, R (.panicked (fltV 3 130)) (W.drewN q)) := fun q => by
                   rw [← HR.out, hMv, if_neg hK]; exact ⟨rfl, HW.out q⟩
                 have hKi : ¬ (K : Int) = 1 := by omega
                 have hKb : ((K : Int) == 1) = false := by simp; omega
                 have hKn : ((K : Int) != 1) = true := by simp; omega
                 clear hMv HR H0 HC HB HW HDr
                 have hb : ((⟨#[84, 82, 77, 1]⟩ : ByteArray)[3]'(by decide)).toNat = 1 := rfl
                 have hKq : ((K : Int) != ((((⟨#[84, 82, 77, 1]⟩ : ByteArray)[3]'(by decide)).toNat : Nat) : Int)) = true := hKn
                 go_quiet (fail)
                 go_wp2_with fail
                 refine (hC _).mono ?_
                 rintro e w2 ⟨rfl, rfl⟩
                 clear hC
                 go_wp2
                 exact ⟨rfl, HZ.out _⟩))
end Go.Proofs.YtmmbdpdpkkikjaaGreat
namespace Go.Proofs.YtmmbdpdpkkikjaaGreat
open Go.RowKit
set_option linter.unusedVariables false

def bodyN (xs : List Nat) : Nat := Q01.wid ((xs.drop 4).take 4)
/-- What stands around the body: a fault, or where the body ends. -/
def headR (xs : List Nat) : (Nat × Nat) ⊕ Nat := match mrkR xs with
  | some i => .inl (i, 130)
  | none => if xs.length < 8 then .inl (xs.length, 10) else if xs.length < bodyN xs + 12 then .inl (xs.length, 10) else if bodyN xs + 12 < xs.length then .inl (bodyN xs + 12, 130) else if Q01.wid ((xs.drop (bodyN xs + 8)).take 4) = Q01.sumN ((xs.take (bodyN xs + 8)).drop 8) then .inr (bodyN xs + 8) else .inl (bodyN xs + 8, 130)
def HeadRet (r : Nat) (a : Option Addr) (c : Nat) (xs : List Nat) (w : World) (e : Ending) (w' : World) : Prop := (match headR xs with
  | .inl x => e = .panicked (fltV (x.1 : Int) (x.2 : Int))
  | .inr E => e = .returned (.tuple #[]) ∧ RdAt w' r a c (xs.take E) 8) ∧ RFr r w w'
set_option maxHeartbeats 4000000 in
set_option maxRecDepth 100000 in
theorem rhead_as {w : World} {r : Nat} {a : Option Addr} {c : Nat} {xs : List Nat} (h : RdAt w r a c xs 0) : Calls Tryz.prog 33 #[ptr r] w (HeadRet r a c xs w) := by
  obtain ⟨R, HR⟩ : ∃ R, Hid (HeadRet r a c xs w = R) := ⟨_, rfl⟩
  rw [HR.out]
  have hM := rmark_as h
  cases hr : mrkR xs with
  | some i =>
    rw [hr] at hM
    have HZ : Hid (∀ w', RFr r w w' → R (.panicked (fltV (i : Int) 130)) w') := fun w' hf => by
      rw [← HR.out]; unfold HeadRet headR; rw [hr]; exact ⟨rfl, hf⟩
    clear hr h HR
    go_enter Tryz.func33, Tryz.ntmps33
    go_wp2_with fail
    refine hM.mono ?_
    rintro e w1 ⟨rfl, hf, -⟩
    go_wp2
    exact ⟨rfl, HZ.out _ hf⟩
  | none =>
    rw [hr] at hM
    have HS : Hid (headR xs = if xs.length < 8 then .inl (xs.length, 10) else if xs.length < bodyN xs + 12 then .inl (xs.length, 10) else if bodyN xs + 12 < xs.length then .inl (bodyN xs + 12, 130) else if Q01.wid ((xs.drop (bodyN xs + 8)).take 4) = Q01.sumN ((xs.take (bodyN xs + 8)).drop 8) then .inr (bodyN xs + 8) else .inl (bodyN xs + 8, 130)) := by unfold Hid headR; rw [hr]
    clear hr h
    go_enter Tryz.func33, Tryz.ntmps33
    go_wp2_with fail
    refine hM.mono ?_
    rintro e w1 ⟨rfl, hf, hd⟩
    clear hM
    have HD : Hid (RdAt w1 r a c xs 0) := hd
    have HF : Hid (RFr r w w1) := hf
    obtain ⟨x0, x1, xf⟩ := own2 hd.own
    have hmx : (xs.length : Int) ≤ 2097152 := by have := hd.mx; omega
    by_cases h8 : xs.length < 8
    · have h8i : (xs.length : Int) < 8 := by omega
      have hC := giveUpShort_as hd
      have HZ : Hid (R (.panicked (fltV (xs.length : Int) 10)) w1) := by
        rw [Hid, ← HR.out]; unfold HeadRet; rw [HS.out, if_pos h8]; exact ⟨rfl, hf⟩
      clear hd hf HD HF HS HR h8
      go_wp2_with fail
      refine hC.mono ?_
      rintro e w2 ⟨rfl, rfl⟩
      go_wp2
      exact ⟨rfl, HZ.out⟩
    · have h8i : ¬ (xs.length : Int) < 8 := by omega
      have hWd := Q01.wide_any a xs.length c xs 4 4 w1 hd.lies rfl
      have eN : Q01.wN xs 4 4 = bodyN xs := by unfold Q01.wN bodyN; rw [if_pos (by omega)]; rfl
      have eP : Q01.wP xs 4 4 = 8 := by unfold Q01.wP; rw [if_pos (by omega)]; rfl
      have eE : Q01.wE xs 4 4 = 0 := by unfold Q01.wE; rw [if_pos (by omega), if_pos (by omega)]
      rw [eN, eP, eE] at hWd
      have hb4 : bodyN xs < 4294967296 := by
        have := Q01.wid_lt ((xs.drop 4).take 4) (fun c hc => hd.lies.1 c (List.mem_of_mem_drop (List.mem_of_mem_take hc)))
        unfold bodyN
        rw [List.length_take, List.length_drop, Nat.min_eq_left (by omega)] at this
        exact this
      have HB : Hid (bodyN xs = bodyN xs) := rfl
      clear eN eP eE
      obtain ⟨n, hn⟩ : ∃ n, bodyN xs = n := ⟨_, rfl⟩
      rw [hn] at hWd hb4
      have HN : Hid (bodyN xs = n) := hn
      have hS2 := HS.out
      rw [if_neg h8, hn] at hS2
      have HS2 : Hid _ := hS2
      clear HB hn HS h8 hS2 hd hf
      go_wp2_with fail
      refine hWd.mono ?_
      rintro e w2 ⟨rfl, rfl⟩
      clear hWd
      have hb4i : (n : Int) < 4294967296 := by omega
      have hn0 : (0 : Int) ≤ (n : Int) := by omega
      by_cases hA : xs.length < n + 12
      · have hAi : (xs.length : Int) < 8 + (n : Int) + 4 := by omega
        have hC := giveUpShort_as HD.out
        have HZ : Hid (R (.panicked (fltV (xs.length : Int) 10)) w1) := by
          have h1 := HS2.out
          rw [if_pos hA] at h1
          rw [Hid, ← HR.out]; unfold HeadRet; rw [h1]; exact ⟨rfl, HF.out⟩
        clear HD HF HS2 HR hA HN hb4
        go_wp2_with fail
        refine hC.mono ?_
        rintro e w2 ⟨rfl, rfl⟩
        go_wp2
        exact ⟨rfl, HZ.out⟩
      · have hAi : ¬ (xs.length : Int) < 8 + (n : Int) + 4 := by omega
        by_cases hB : n + 12 < xs.length
        · have hBi : 8 + (n : Int) + 4 < (xs.length : Int) := by omega
          have hC := giveUp_as r (8 + (n : Int) + 4) 130 w1
          have HZ : Hid (R (.panicked (fltV (8 + (n : Int) + 4) 130)) w1) := by
            have h1 := HS2.out
            rw [if_neg hA, if_pos hB] at h1
            have h2 : 8 + (n : Int) + 4 = ((n + 12 : Nat) : Int) := by omega
            rw [Hid, ← HR.out]; unfold HeadRet; rw [h1, h2]; exact ⟨rfl, HF.out⟩
          clear HD HF HS2 HR hA hB HN hb4
          have hMm : 8 + (n : Int) + 4 ≤ 4294967308 := by omega
          have hM0 : (0 : Int) ≤ 8 + (n : Int) + 4 := by omega
          go_upto_region 5 with fail
          generalize 8 + (n : Int) + 4 = M at *
          clear hb4i hn0 h8i
          go_upto_region 7 with fail
          go_wp2_with fail
          refine hC.mono ?_
          rintro e w2 ⟨rfl, rfl⟩
          go_wp2
          exact ⟨rfl, HZ.out⟩
        · have hL : xs.length = n + 12 := by omega
          have hBi : ¬ 8 + (n : Int) + 4 < (xs.length : Int) := by omega
          have HS3 : Hid (headR xs = if Q01.wid ((xs.drop (n + 8)).take 4) = Q01.sumN ((xs.take (n + 8)).drop 8) then .inr (n + 8) else .inl (n + 8, 130)) := by rw [Hid, HS2.out, if_neg hA, if_neg hB]
          have hWd := Q01.wide_any a xs.length c xs (8 + (n : Int)) 4 w1 HD.out.lies rfl
          have hto : (8 + (n : Int)).toNat = n + 8 := by omega
          have eN : Q01.wN xs (8 + (n : Int)) 4 = Q01.wid ((xs.drop (n + 8)).take 4) := by unfold Q01.wN; rw [if_pos (by omega), hto]; rfl
          have eP : Q01.wP xs (8 + (n : Int)) 4 = 8 + (n : Int) + 4 := by unfold Q01.wP; rw [if_pos (by omega)]
          have eE : Q01.wE xs (8 + (n : Int)) 4 = 0 := by unfold Q01.wE; rw [if_pos (by omega), if_pos (by omega)]
          rw [eN, eP, eE] at hWd
          have hb5 : Q01.wid ((xs.drop (n + 8)).take 4) < 4294967296 := by
            have := Q01.wid_lt ((xs.drop (n + 8)).take 4) (fun c hc => HD.out.lies.1 c (List.mem_of_mem_drop (List.mem_of_mem_take hc)))
            rw [List.length_take, List.length_drop, Nat.min_eq_left (by omega)] at this
            exact this
          have hb6 : Q01.sumN ((xs.take (n + 8)).drop 8) < 4294967296 := by unfold Q01.sumN; omega
          obtain ⟨b, off, ea⟩ := HD.out.at_
          subst ea
          have hcap := HD.out.cap
          have hcm := HD.out.cm
          have HLS : Hid (Lies w1 (some ⟨b, off, none⟩) xs) := HD.out.lies
          have hSm : Calls Tryz.prog 30 #[.slice (some ⟨b, off + 8, none⟩) n (c - 8)] w1 fun e w' => e = .returned (.int .u32 (Q01.sumN ((xs.take (n + 8)).drop 8) : Nat)) ∧ w1 = w' := by
            have e1 : (xs.take (n + 8)).drop 8 = (xs.drop 8).take n := by rw [List.drop_take]; congr 1
            rw [e1]
            have hl := HLS.out.part 8 n (by omega)
            have hlen : ((xs.drop 8).take n).length = n := by rw [List.length_take, List.length_drop]; omega
            refine Q01.sum_row b (off + 8) n (c - 8) ((xs.drop 8).take n) w1 hlen.symm hl.1 (by omega) (fun i hi => ?_)
            rcases hl.2.2 with h0 | ⟨b', off', e, hc⟩
            · rw [h0] at hi; cases hi
            · cases e; exact hc i hi
          have hc8 : ¬ c = 8 := by omega
          have hc0 : ¬ c = 0 := by omega
          have hcI : 8 + (n : Int) ≤ (c : Int) := by omega
          have h88 : (8 : Int) ≤ 8 + (n : Int) := by omega
          have hsub : n + 8 - 8 = n := by omega
          clear eN eP eE hA hB HS2 HN
          generalize Q01.wid ((xs.drop (n + 8)).take 4) = S1 at *
          generalize Q01.sumN ((xs.take (n + 8)).drop 8) = S2 at *
          have HL : Hid (xs.length = n + 12) := hL
          have hMm : 8 + (n : Int) + 4 ≤ 4294967308 := by omega
          have hM0 : (0 : Int) ≤ 8 + (n : Int) + 4 := by omega
          have hn2 : (n : Int) ≤ 2097152 := by omega
          have HcI : Hid (8 + (n : Int) ≤ (c : Int)) := hcI
          have H88 : Hid ((8 : Int) ≤ 8 + (n : Int)) := h88
          have HN0 : Hid ((0 : Int) ≤ (n : Int)) := hn0
          have Hto : Hid ((8 + (n : Int)).toNat = n + 8) := hto
          clear hL hcI h88 hto hcap hb4 hb4i h8i
          go_upto_region 5 with fail
          generalize 8 + (n : Int) + 4 = M at *
          clear hn0
          go_upto_region 7 with fail
          go_upto_region 9 with fail
          clear hAi hBi hMm hM0
          have hn0 := HN0.out
          go_upto_region 10 with fail
          go_wp2_with fail
          refine hWd.mono ?_
          rintro e w2 ⟨rfl, rfl⟩
          clear hWd
          have hcI := HcI.out
          have h88 := H88.out
          have hto := Hto.out
          go_wp2_with fail
          refine hSm.mono ?_
          rintro e w2 ⟨rfl, rfl⟩
          clear hSm
          by_cases hE : S1 = S2
          · have hS4 : headR xs = .inr (n + 8) := by rw [HS3.out, if_pos hE]
            have hlt : (xs.take (n + 8)).length = n + 8 := by rw [List.length_take]; have := HL.out; omega
            have o1 := (HD.out.own.set 0 (.slice (some ⟨b, off, none⟩) (n + 8) c)).set 1 (.int .i64 8)
            have o2 : Own ((w1.setCell ⟨r, 0, none⟩ (.slice (some ⟨b, off, none⟩) (n + 8) c)).setCell ⟨r, 1, none⟩ (.int .i64 8)) r #[.slice (some ⟨b, off, none⟩) (xs.take (n + 8)).length c, .int .i64 ((8 : Nat) : Int)] 69 := by rw [hlt]; simpa using o1
            have f1 : RFr r w1 ((w1.setCell ⟨r, 0, none⟩ (.slice (some ⟨b, off, none⟩) (n + 8) c)).setCell ⟨r, 1, none⟩ (.int .i64 8)) := ((Fr.refl (fun b => b = r) w1).set (g := r) (.inr rfl) 0 _).set (g := r) (.inr rfl) 1 _
            have hl1 := HD.out.lies_fr f1
            have hl2 := hl1.part 0 (n + 8) (by have := HL.out; omega)
            rw [Nat.add_zero, List.drop_zero] at hl2
            have HZ : Hid (R (.returned (.tuple #[])) ((w1.setCell ⟨r, 0, none⟩ (.slice (some ⟨b, off, none⟩) (n + 8) c)).setCell ⟨r, 1, none⟩ (.int .i64 8))) := by
              rw [Hid, ← HR.out]; unfold HeadRet; rw [hS4]
              refine ⟨⟨rfl, o2, hl2, by rw [hlt]; omega, ?_, ?_, HD.out.cm, HD.out.at_, fun b' off' e h0 => HD.out.ne b' off' e (fun h1 => h0 (by rw [h1]; rfl))⟩, HF.out.trans f1⟩
              · have := HD.out.mx; have := HL.out; omega
              · have := HD.out.cap; have := HL.out; omega
            clear HR HD HF HLS HS3 hS4 o1 o2 f1 hl1 hl2 hlt
            subst hE
            go_wp2_with fail
            exact bodyPost_end (results_none rfl _ _ _) rfl HZ.out
          · have hC := giveUp_as r (8 + (n : Int)) 130 w1
            have HZ : Hid (R (.panicked (fltV (8 + (n : Int)) 130)) w1) := by
              have h1 := HS3.out
              rw [if_neg hE] at h1
              have h2 : 8 + (n : Int) = ((n + 8 : Nat) : Int) := by omega
              rw [Hid, ← HR.out]; unfold HeadRet; rw [h1, h2]; exact ⟨rfl, HF.out⟩
            have hEi : ¬ (S1 : Int) = (S2 : Int) := by omega
            have hEb : ((S1 : Int) == (S2 : Int)) = false := by simp; omega
            have hEn : ((S1 : Int) != (S2 : Int)) = true := by simp; omega
            clear HR HD HF HLS HS3
            go_wp2_with fail
            refine hC.mono ?_
            rintro e w2 ⟨rfl, rfl⟩
            go_wp2
            exact ⟨rfl, HZ.out⟩
end Go.Proofs.YtmmbdpdpkkikjaaGreat
