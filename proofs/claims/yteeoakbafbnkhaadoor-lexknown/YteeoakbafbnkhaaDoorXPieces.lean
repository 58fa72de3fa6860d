/-
  CONTRACT of the landed lex's piece.
-/
import Derived.Test.YteeoakbafbnkhaaDoorXPiece
namespace Go.Proofs.YteeoakbafbnkhaaDoor
open Go.RowKit
set_option linter.unusedVariables false

theorem esc_pair (r : List Nat) : escR (120 :: r) = pairR 2 0 r := by
  match r with
  | [] => rfl
  | d :: r1 =>
    by_cases h : endsB d = true
    · rw [esc_x1 d r1 h, pair_ends _ _ _ _ h]
    · have h' : endsB d = false := by simpa using h
      by_cases hd : hexN d = 16
      · rw [esc_x2 d r1 h' hd, pair_bad _ _ _ _ h' hd]
      · rw [pair_ok _ _ _ _ h' hd]
        match r1 with
        | [] => rw [esc_x3 d h' hd]; rfl
        | e :: r2 =>
          by_cases he : endsB e = true
          · rw [esc_x4 d e r2 h' hd he, pair_ends _ _ _ _ he]
          · have he' : endsB e = false := by simpa using he
            by_cases hx : hexN e = 16
            · rw [esc_x5 d e r2 h' hd he' hx, pair_bad _ _ _ _ he' hx]
            · rw [esc_x6 d e r2 h' hd he' hx, pair_ok _ _ _ _ he' hx, pairR]
              simp
def pieceR (l : List Nat) : Nat × Nat × Nat := match l with | [] => (0, 0, 31) | c :: r => if endsB c then (0, 0, 31) else if c = 92 then escR r else (c, 1, 0)
theorem piece_ends (c : Nat) (r : List Nat) (h : endsB c = true) : pieceR (c :: r) = (0, 0, 31) := by simp [pieceR, h]
theorem piece_self (c : Nat) (r : List Nat) (h : endsB c = false) (h2 : ¬ c = 92) : pieceR (c :: r) = (c, 1, 0) := by simp [pieceR, h, h2]
theorem piece_esc (r : List Nat) : pieceR (92 :: r) = escR r := by simp [pieceR, endsB]

set_option maxRecDepth 100000 in
set_option maxHeartbeats 2000000 in
theorem xpiece_as (s : ByteArray) (y : Int) (p B K X : Nat) (hy : y = p) (hp : p ≤ s.size) (h : s.size ≤ 1048576) (hR : pieceR ((bytesN s).drop p) = (B, K, X)) (w : World) :
    Calls Tryd.prog 66 #[.string s, .int .i64 y] w fun e w' => e = .returned (.tuple #[.int .u8 (B : Int), .int .i64 (K : Int), .int .i64 (X : Int)]) ∧ Below w.heap.size w w' := by
  subst hy
  have HR : Hid (pieceR ((bytesN s).drop p) = (B, K, X)) := hR
  clear hR
  by_cases hin : p < s.size
  · have hdrop := bytesN_drop s p hin
    obtain ⟨c, hc⟩ : ∃ c, (s[p]'hin).toNat = c := ⟨_, rfl⟩
    rw [hc] at hdrop
    rw [hdrop] at HR
    clear hdrop
    by_cases he : endsB c = true
    · have HE : Hid (endsB c = true) := he
      have HF : Hid ((0, 0, 31) = (B, K, X)) := by unfold Hid; rw [← HR.out, piece_ends _ _ he]
      clear he
      obtain ⟨rfl, h2⟩ := Prod.mk.inj HF.out
      obtain ⟨rfl, rfl⟩ := Prod.mk.inj h2
      clear h2 HF HR
      go_enter Tryd.func66, Tryd.ntmps66
      go_wp2_with fail
      refine (xbo_in s p p c rfl hin hc h true HE.out _).mono ?_
      rintro e w2 ⟨rfl, hb2⟩
      have HB2 : Hid (Below w.heap.size w w2) := hb2
      clear hb2
      go_wp2
      go_ret3
      exact ⟨rfl, HB2.out⟩
    · have HE : Hid (endsB c = false) := by simpa [Hid] using he
      clear he
      by_cases h92 : c = 92
      · subst h92
        have HR2 : Hid (escR ((bytesN s).drop (p + 1)) = (B, K, X)) := by unfold Hid; rw [← HR.out, piece_esc]
        clear HR
        by_cases hin2 : p + 1 < s.size
        · have hdrop := bytesN_drop s (p + 1) hin2
          obtain ⟨d, hd⟩ : ∃ d, (s[p + 1]'hin2).toNat = d := ⟨_, rfl⟩
          rw [hd] at hdrop
          rw [hdrop] at HR2
          clear hdrop
          by_cases he : endsB d = true
          · have HE2 : Hid (endsB d = true) := he
            have HF : Hid ((0, 0, 31) = (B, K, X)) := by unfold Hid; rw [← HR2.out, esc_ends _ _ he]
            clear he
            obtain ⟨rfl, h2⟩ := Prod.mk.inj HF.out
            obtain ⟨rfl, rfl⟩ := Prod.mk.inj h2
            clear h2 HF HR2
            go_enter Tryd.func66, Tryd.ntmps66
            go_wp2_with fail
            refine (xbo_in s p p 92 rfl hin hc h false HE.out _).mono ?_
            rintro e w2 ⟨rfl, hb2⟩
            have HB2 : Hid (Below w.heap.size w w2) := hb2
            clear hb2
            go_wp2_with fail
            refine (xbo_in s ((p : Int) + 1) (p + 1) d (by omega) hin2 hd h true HE2.out _).mono ?_
            rintro e w3 ⟨rfl, hb3⟩
            have HB3 : Hid (Below w.heap.size w w3) := below_chain HB2.out hb3 (Nat.le_refl _)
            clear hb3
            go_wp2
            go_ret3
            exact ⟨rfl, HB3.out⟩
          · have HE2 : Hid (endsB d = false) := by simpa [Hid] using he
            clear he
            by_cases hx : d = 120
            · subst hx
              have HF : Hid (pairR 2 0 ((bytesN s).drop (p + 2)) = (B, K, X)) := by unfold Hid; rw [← HR2.out, esc_pair]
              clear HR2
              go_enter Tryd.func66, Tryd.ntmps66
              go_wp2_with fail
              refine (xbo_in s p p 92 rfl hin hc h false HE.out _).mono ?_
              rintro e w2 ⟨rfl, hb2⟩
              have HB2 : Hid (Below w.heap.size w w2) := hb2
              clear hb2
              go_wp2_with fail
              refine (xbo_in s ((p : Int) + 1) (p + 1) 120 (by omega) hin2 hd h false HE2.out _).mono ?_
              rintro e w3 ⟨rfl, hb3⟩
              have HB3 : Hid (Below w.heap.size w w3) := below_chain HB2.out hb3 (Nat.le_refl _)
              clear hb3
              go_wp2_with fail
              refine (xpair_as s ((p : Int) + 2) (p + 2) B K X (by omega) (by omega) h HF.out _).mono ?_
              rintro e w4 ⟨rfl, hb4⟩
              have HB4 : Hid (Below w.heap.size w w4) := below_chain HB3.out hb4 (Nat.le_refl _)
              clear hb4
              go_wp2
              go_ret3
              exact ⟨rfl, HB4.out⟩
            · have HD : Hid ((d = 34 ∧ (34, 2, 0) = (B, K, X)) ∨ (d = 92 ∧ (92, 2, 0) = (B, K, X)) ∨ (d = 110 ∧ (10, 2, 0) = (B, K, X)) ∨ (d = 116 ∧ (9, 2, 0) = (B, K, X)) ∨ (d = 114 ∧ (13, 2, 0) = (B, K, X)) ∨ (¬ d = 34 ∧ ¬ d = 92 ∧ ¬ d = 110 ∧ ¬ d = 116 ∧ ¬ d = 114 ∧ (0, 0, 32) = (B, K, X))) := by
                unfold Hid
                rw [← HR2.out]
                by_cases h1 : d = 34
                · subst h1; exact .inl ⟨rfl, rfl⟩
                by_cases h2 : d = 92
                · subst h2; exact .inr (.inl ⟨rfl, rfl⟩)
                by_cases h3 : d = 110
                · subst h3; exact .inr (.inr (.inl ⟨rfl, rfl⟩))
                by_cases h4 : d = 116
                · subst h4; exact .inr (.inr (.inr (.inl ⟨rfl, rfl⟩)))
                by_cases h5 : d = 114
                · subst h5; exact .inr (.inr (.inr (.inr (.inl ⟨rfl, rfl⟩))))
                exact .inr (.inr (.inr (.inr (.inr ⟨h1, h2, h3, h4, h5, (esc_other d _ HE2.out h1 h2 h3 h4 h5 hx).symm⟩))))
              clear HR2
              rcases HD.out with ⟨rfl, q⟩ | ⟨rfl, q⟩ | ⟨rfl, q⟩ | ⟨rfl, q⟩ | ⟨rfl, q⟩ | ⟨n1, n2, n3, n4, n5, q⟩
              case inr.inr.inr.inr.inr =>
                obtain ⟨rfl, q2⟩ := Prod.mk.inj q
                obtain ⟨rfl, rfl⟩ := Prod.mk.inj q2
                have e1 : ((d : Int) == 34) = false := by simp; omega
                have e2 : ((d : Int) == 92) = false := by simp; omega
                have e3 : ((d : Int) == 110) = false := by simp; omega
                have e4 : ((d : Int) == 116) = false := by simp; omega
                have e5 : ((d : Int) == 114) = false := by simp; omega
                have e6 : ((d : Int) == 120) = false := by simp; omega
                clear q q2 HD hx n1 n2 n3 n4 n5
                go_enter Tryd.func66, Tryd.ntmps66
                go_wp2_with fail
                refine (xbo_in s p p 92 rfl hin hc h false HE.out _).mono ?_
                rintro e w2 ⟨rfl, hb2⟩
                have HB2 : Hid (Below w.heap.size w w2) := hb2
                clear hb2
                go_wp2_with fail
                refine (xbo_in s ((p : Int) + 1) (p + 1) d (by omega) hin2 hd h false HE2.out _).mono ?_
                rintro e w3 ⟨rfl, hb3⟩
                have HB3 : Hid (Below w.heap.size w w3) := below_chain HB2.out hb3 (Nat.le_refl _)
                clear hb3
                go_wp2
                go_ret3
                exact ⟨rfl, HB3.out⟩
              all_goals
                obtain ⟨rfl, q2⟩ := Prod.mk.inj q
                obtain ⟨rfl, rfl⟩ := Prod.mk.inj q2
                clear q q2 HD hx
                go_enter Tryd.func66, Tryd.ntmps66
                go_wp2_with fail
                refine (xbo_in s p p 92 rfl hin hc h false HE.out _).mono ?_
                rintro e w2 ⟨rfl, hb2⟩
                have HB2 : Hid (Below w.heap.size w w2) := hb2
                clear hb2
                go_wp2_with fail
                refine (xbo_in s ((p : Int) + 1) (p + 1) _ (by omega) hin2 hd h false HE2.out _).mono ?_
                rintro e w3 ⟨rfl, hb3⟩
                have HB3 : Hid (Below w.heap.size w w3) := below_chain HB2.out hb3 (Nat.le_refl _)
                clear hb3
                go_wp2
                go_ret3
                exact ⟨rfl, HB3.out⟩
        · have HF : Hid ((0, 0, 31) = (B, K, X)) := by
            unfold Hid; rw [← HR2.out, List.drop_eq_nil_of_le (by rw [bytesN_length]; omega)]; rfl
          obtain ⟨rfl, h2⟩ := Prod.mk.inj HF.out
          obtain ⟨rfl, rfl⟩ := Prod.mk.inj h2
          clear h2 HF HR2
          go_enter Tryd.func66, Tryd.ntmps66
          go_wp2_with fail
          refine (xbo_in s p p 92 rfl hin hc h false HE.out _).mono ?_
          rintro e w2 ⟨rfl, hb2⟩
          have HB2 : Hid (Below w.heap.size w w2) := hb2
          clear hb2
          go_wp2_with fail
          refine (xbo_out s ((p : Int) + 1) (p + 1) (by omega) (by omega) h _).mono ?_
          rintro e w3 ⟨rfl, rfl⟩
          go_wp2
          go_ret3
          exact ⟨rfl, HB2.out⟩
      · have HF : Hid ((c, 1, 0) = (B, K, X)) := by unfold Hid; rw [← HR.out, piece_self _ _ HE.out h92]
        obtain ⟨rfl, h2⟩ := Prod.mk.inj HF.out
        obtain ⟨rfl, rfl⟩ := Prod.mk.inj h2
        have e1 : ((c : Int) != 92) = true := by simp; omega
        clear h2 HF HR h92
        go_enter Tryd.func66, Tryd.ntmps66
        go_wp2_with fail
        refine (xbo_in s p p c rfl hin hc h false HE.out _).mono ?_
        rintro e w2 ⟨rfl, hb2⟩
        have HB2 : Hid (Below w.heap.size w w2) := hb2
        clear hb2
        go_wp2
        go_ret3
        exact ⟨rfl, HB2.out⟩
  · have HF : Hid ((0, 0, 31) = (B, K, X)) := by
      unfold Hid; rw [← HR.out, List.drop_eq_nil_of_le (by rw [bytesN_length]; omega)]; rfl
    obtain ⟨rfl, h2⟩ := Prod.mk.inj HF.out
    obtain ⟨rfl, rfl⟩ := Prod.mk.inj h2
    clear h2 HF HR
    go_enter Tryd.func66, Tryd.ntmps66
    go_wp2_with fail
    refine (xbo_out s p p rfl (by omega) h _).mono ?_
    rintro e w2 ⟨rfl, rfl⟩
    go_wp2
    go_ret3
    exact ⟨rfl, Below.refl _ _⟩
end Go.Proofs.YteeoakbafbnkhaaDoor
