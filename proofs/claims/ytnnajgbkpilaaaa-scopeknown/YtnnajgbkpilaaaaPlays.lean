/-
  ScopePlays, walked.
-/
import Derived.Test.YtnnajgbkpilaaaaPlay
namespace Go.Proofs.Ytnnajgbkpilaaaa
open Go.RowKit
set_option linter.unusedVariables false
set_option linter.unusedSimpArgs false
abbrev ptr (p : Nat) : Value := .pointer (some ⟨p, 0, none⟩)
theorem prTells {w : World} {p q : Nat} {m : M} {A : Nat → Prop} (h : Pr w p q m A) : Calls Try.prog 14 #[ptr p, ptr q] w fun e w' => e = .returned (.bool true) ∧ Below w.heap.size w w' := by
  obtain ⟨F, G, h1, h2, _, _⟩ := h
  exact tellsP h1 h2
/-- What a call on both leaves of all else. -/
theorem below_fr {a b c : World} {A : Nat → Prop} (hb : Below a.heap.size a b) (hf : Fr A b c) (hA : ∀ k, A k → a.heap.size ≤ k) : Below a.heap.size a c :=
  Fr.below ((Fr.of (F := fun _ => False) hb).then hf fun i hi q => absurd (hA i q) (by omega))
/-- The scope that was left, and the document's. -/
def Kp (a : World) (k : Nat) (A : Nat → Prop) (lv kv : Value) (wr : World) : Prop :=
  (lv = .pointer none ∧ kv = .pointer none) ∨ ∃ p2 q2 m2 A2, lv = ptr p2 ∧ kv = ptr q2 ∧ Pr wr p2 q2 m2 A2 ∧ Bd m2 k ∧ (∀ b, A2 b → a.heap.size ≤ b) ∧ (∀ b, A b → A2 b → False)
def Now (a : World) (k : Nat) (A : Nat → Prop) (sv mv : Value) (wr : World) : Prop := ∃ p q m, sv = ptr p ∧ mv = ptr q ∧ Pr wr p q m A ∧ Bd m k ∧ (∀ b, A b → a.heap.size ≤ b)
def PlRel (a : World) (n : Nat) (sv mv lv kv iv : Value) (wr : World) : Prop :=
  ∃ k : Nat, k ≤ n ∧ iv = .int .i64 (k : Int) ∧ Below a.heap.size a wr ∧ ∃ A, Now a k A sv mv wr ∧ Kp a k A lv kv wr
theorem prNew {w w1 w2 : World} {p q : Nat} (hS : ∃ F, ScAt w1 p M.new F ∧ (∀ b, F b → w.heap.size ≤ b) ∧ Below w.heap.size w w1) (hR : ∃ G, RfAt w2 q M.new G ∧ (∀ b, G b → w1.heap.size ≤ b) ∧ Below w1.heap.size w1 w2) : ∃ A, Pr w2 p q M.new A ∧ (∀ b, A b → w.heap.size ≤ b) ∧ Below w.heap.size w w2 := by
  obtain ⟨F, a1, a2, a3⟩ := hS
  obtain ⟨G, c1, c2, c3⟩ := hR
  have hs := a3.size
  refine ⟨fun b => F b ∨ G b, ⟨F, G, a1.below c3, c1, fun b f g => ?_, fun b => Iff.rfl⟩, fun b hb => ?_, a3.trans (c3.mono hs)⟩
  · have := a1.bd b f
    have := c2 b g
    omega
  · rcases hb with f | g
    · exact a2 b f
    · have := c2 b g; omega
theorem prCopy {w w1 w2 : World} {p q : Nat} {m : M} (hS : ∃ F, ScAt w1 p m F ∧ (∀ b, F b → w.heap.size ≤ b) ∧ Below w.heap.size w w1) (hR : ∃ G, RfAt w2 q m G ∧ (∀ b, G b → w1.heap.size ≤ b) ∧ Below w1.heap.size w1 w2) : ∃ A, Pr w2 p q m A ∧ (∀ b, A b → w.heap.size ≤ b) ∧ Below w.heap.size w w2 := by
  obtain ⟨F, a1, a2, a3⟩ := hS
  obtain ⟨G, c1, c2, c3⟩ := hR
  have hs := a3.size
  refine ⟨fun b => F b ∨ G b, ⟨F, G, a1.below c3, c1, fun b f g => ?_, fun b => Iff.rfl⟩, fun b hb => ?_, a3.trans (c3.mono hs)⟩
  · have := a1.bd b f
    have := c2 b g
    omega
  · rcases hb with f | g
    · exact a2 b f
    · have := c2 b g; omega
theorem prCopyS {w : World} {p q : Nat} {m : M} {A : Nat → Prop} {N : Nat} (h : Pr w p q m A) (hb : Bd m N) (hN : N ≤ 10000) : Calls Try.prog 11 #[ptr p] w fun e w' => ∃ p', e = .returned (ptr p') ∧ ∃ F, ScAt w' p' m F ∧ (∀ b, F b → w.heap.size ≤ b) ∧ Below w.heap.size w w' := by
  obtain ⟨F, G, h1, _⟩ := h
  refine (copyS h1 (by have := hb.1; omega) (by have := hb.2.1; omega)).mono ?_
  rintro e w' ⟨p', G, rfl, h2, h3, h4⟩
  exact ⟨p', rfl, G, h2, h3, h4⟩
theorem prCopyR {w : World} {p q : Nat} {m : M} {A : Nat → Prop} {N : Nat} (h : Pr w p q m A) (hb : Bd m N) (hN : N ≤ 10000) : Calls Try.prog 12 #[ptr q] w fun e w' => ∃ q', e = .returned (ptr q') ∧ ∃ G, RfAt w' q' m G ∧ (∀ b, G b → w.heap.size ≤ b) ∧ Below w.heap.size w w' := by
  obtain ⟨F, G, h1, h2, _⟩ := h
  have hf := h1.inv.few
  have hl := h1.inv.lows
  refine (rCopy h2 (by omega) hf (by have := hb.2.1; omega)).mono ?_
  rintro e w' ⟨p', G, rfl, h2, h3, h4⟩
  exact ⟨p', rfl, G, h2, h3, h4⟩
theorem prKeep {w w3 : World} {p q p' q' : Nat} {m m' : M} {A : Nat → Prop} (h : Pr w p q m A) (hc : ∃ A', Pr w3 p' q' m' A' ∧ (∀ b, A' b → w.heap.size ≤ b) ∧ Below w.heap.size w w3) : Pr w3 p q m A := by
  obtain ⟨_, _, _, hb⟩ := hc
  exact h.below hb
theorem prMid {w w2 : World} {p q p' : Nat} {m : M} {A : Nat → Prop} (h : Pr w p q m A) (hc : ∃ F, ScAt w2 p' m F ∧ (∀ b, F b → w.heap.size ≤ b) ∧ Below w.heap.size w w2) : Pr w2 p q m A := by
  obtain ⟨_, _, _, hb⟩ := hc
  exact h.below hb
theorem prStay {w w2 : World} {p q p2 q2 : Nat} {m' m2 : M} {A A2 : Nat → Prop} (h : Pr w p2 q2 m2 A2) (hd : ∀ b, A b → A2 b → False) (r : PrRet w p q m' A w2) : Pr w2 p2 q2 m2 A2 := by
  obtain ⟨_, _, _, h3⟩ := r
  exact h.fr h3 fun b x y => hd b y x
set_option maxRecDepth 100000 in
set_option maxHeartbeats 4000000 in
theorem plays_walk (w : World) (ao : Option Addr) (ss : List St) (cap : Nat) (hs : StIn w w.heap.size ao ss) (hcap : ss.length ≤ cap) (hc63 : cap ≤ maxLen) :
    Calls Try.prog 3 #[.slice ao ss.length cap] w fun e w' => e = .returned (.bool true) ∧ Below w.heap.size w w' := by
  obtain ⟨n, hn⟩ : ∃ n, Hid (ss.length = n) := ⟨_, rfl⟩
  rw [hn.out] at hcap ⊢
  unfold maxLen at hc63
  have hN := newS w
  by_cases hbig : 400 < n
  · go_enter Try.func3, Try.ntmps3
    go_wp2
    go_ret
    exact ⟨rfl, Below.refl _ _⟩
  have hle : n ≤ 400 := by omega
  clear hbig
  go_enter Try.func3, Try.ntmps3
  go_wp2_with (first | (go_at_call 8; refine hN.mono ?_; rintro e w0 ⟨rfl, h0⟩; have HS0 : Hid _ := h0; clear h0; have hN2 := rNew w0) | (go_at_call 9; refine hN2.mono ?_; rintro e w1 ⟨rfl, h1⟩; have HS1 : Hid _ := h1; clear h1))
  have HP : Hid (∃ A, Pr w1 w.heap.size w0.heap.size M.new A ∧ (∀ b, A b → w.heap.size ≤ b) ∧ Below w.heap.size w w1) := prNew HS0.out HS1.out
  clear hN hN2 HS0 HS1
  go_loopw [3, 4, 5, 6, 7] (fun sv mv lv kv iv wr => PlRel w n sv mv lv kv iv wr) (fun _ _ _ _ i _ => n - (intOf i).toNat)
  case atStart =>
    obtain ⟨A, h1, h2, h3⟩ := HP.out
    exact ⟨0, Nat.zero_le _, rfl, h3, A, ⟨_, _, M.new, rfl, rfl, h1, ⟨by simp [M.new], by simp [M.new], by simp [M.new]⟩, h2⟩, .inl ⟨rfl, rfl⟩⟩
  case round =>
    clear HP
    obtain ⟨k, hk, rfl, hbel, A, ⟨p, q, m, rfl, rfl, hP, hBd, hA⟩, hK⟩ := hrel
    have hsw := hbel.size
    have HB : Hid (Below w.heap.size w wr) := hbel
    have HPr : Hid (Pr wr p q m A) := hP
    have HA : Hid (∀ b, A b → w.heap.size ≤ b) := hA
    have HBd : Hid (Bd m k) := hBd
    have HBd1 : Hid (Bd m (k + 1)) := hBd.mono (Nat.le_succ _)
    have HK : Hid (Kp w k A _ _ wr) := hK
    clear hP hA hBd hK
    by_cases hlt : k < n
    · obtain ⟨s, hsd⟩ : ∃ s, Hid (ss.getD k dS = s) := ⟨_, rfl⟩
      have hmem : s ∈ ss := by
        rw [← hsd.out, List.getD_eq_getElem?_getD, List.getElem?_eq_getElem (by rw [hn.out]; exact hlt)]
        exact List.getElem_mem _
      have hsz := hs.1 s hmem
      rcases hs.2 with q | ⟨b, o, rfl, hbB, hst⟩
      · rw [q] at hmem; cases hmem
      have hstk := (hst k (by rw [hn.out]; exact hlt)).below hbel hbB
      rw [hsd.out] at hstk
      obtain ⟨a0, a1, a2, a3⟩ := hstk
      obtain ⟨kd, nm, ty, tu⟩ := s
      simp only at a0 a1 a2 a3 hsz
      have hpick := pick9 kd wr
      have hj := pk_lt kd (show 0 < 9 by omega)
      obtain ⟨j, hjj⟩ : ∃ j, Hid (pk kd 9 = j) := ⟨_, rfl⟩
      rw [hjj.out] at hpick hj
      clear hst hmem hbel
      rcases (show j = 7 ∨ j = 8 ∨ j < 7 by omega) with rfl | rfl | hj7
      · -- on with a copy
        have hcS := prCopyS HPr.out HBd.out (by omega)
        clear HK
        go_wp2_with (first
          | (go_at_call 10; refine hpick.mono ?_; rintro e w1 ⟨rfl, rfl⟩)
          | (go_at_call 11; refine hcS.mono ?_; rintro e w2 ⟨p', rfl, r1⟩; have R1 : Hid _ := r1; clear r1; have hcR := prCopyR (prMid HPr.out R1.out) HBd.out (by omega))
          | (go_at_call 12; refine hcR.mono ?_; rintro e w3 ⟨q', rfl, r2⟩; have HC : Hid _ := prCopy R1.out r2; clear r2; have hP3 : Hid _ := prKeep HPr.out HC.out; have hT := prTells hP3.out)
          | (go_at_call 14; refine hT.mono ?_; rintro e w4 ⟨rfl, b4⟩; have B4 : Hid _ := b4; clear b4))
        go_roundw
        case rel =>
          obtain ⟨A', h1, h2, h3⟩ := HC.out
          have hs3 := h3.size
          refine ⟨k + 1, by omega, by simp, (HB.out.trans (h3.mono hsw)).trans (B4.out.mono (by omega)), A', ⟨_, _, m, rfl, rfl, h1.below B4.out, HBd1.out, fun b hb => Nat.le_trans hsw (h2 b hb)⟩, .inr ⟨_, _, m, A, rfl, rfl, Pr.below hP3.out B4.out, HBd1.out, HA.out, fun b x y => ?_⟩⟩
          have := h2 b x
          have := HPr.out.bd b y
          omega
        case measure => simp [intOf]; omega
      · -- back to what was left
        rcases HK.out with ⟨rfl, rfl⟩ | ⟨p2, q2, m2, A2, rfl, rfl, hP2, hB2, hA2, hd2⟩
        · clear HK
          go_wp2_with (go_at_call 10; refine hpick.mono ?_; rintro e w1 ⟨rfl, rfl⟩)
          go_roundw
          case rel => exact ⟨k + 1, by omega, by simp, HB.out, A, ⟨_, _, m, rfl, rfl, HPr.out, HBd1.out, HA.out⟩, .inl ⟨rfl, rfl⟩⟩
          case measure => simp [intOf]; omega
        · have H2 : Hid (Pr wr p2 q2 m2 A2 ∧ Bd m2 (k + 1) ∧ (∀ b, A2 b → w.heap.size ≤ b) ∧ (∀ b, A b → A2 b → False)) := ⟨hP2, hB2.mono (Nat.le_succ _), hA2, hd2⟩
          have hT := prTells HPr.out
          clear HK hP2 hB2 hA2 hd2
          go_wp2_with (first | (go_at_call 10; refine hpick.mono ?_; rintro e w1 ⟨rfl, rfl⟩) | (go_at_call 14; refine hT.mono ?_; rintro e w4 ⟨rfl, b4⟩; have B4 : Hid _ := b4; clear b4))
          go_roundw
          case rel => exact ⟨k + 1, by omega, by simp, HB.out.trans (B4.out.mono hsw), A2, ⟨_, _, m2, rfl, rfl, H2.out.1.below B4.out, H2.out.2.1, H2.out.2.2.1⟩, .inr ⟨_, _, m, A, rfl, rfl, HPr.out.below B4.out, HBd1.out, HA.out, fun b x y => H2.out.2.2.2 b y x⟩⟩
          case measure => simp [intOf]; omega
      · have hpl := playsP HPr.out HBd.out (by omega) kd nm hsz ty tu
        have HBp : Hid (Bd (m.play ⟨kd, nm, ty, tu⟩) (k + 1)) := HBd.out.play _
        obtain ⟨m', hm'⟩ : ∃ m', Hid (m.play ⟨kd, nm, ty, tu⟩ = m') := ⟨_, rfl⟩
        rw [hm'.out] at hpl HBp
        have h7 : ¬ (j : Int) = 7 := by omega
        have h8 : ¬ (j : Int) = 8 := by omega
        have h7b : ((j : Int) == 7) = false := by simp; omega
        have h8b : ((j : Int) == 8) = false := by simp; omega
        have h7c : (j : Int) < 7 := by omega
        rcases HK.out with ⟨rfl, rfl⟩ | ⟨p2, q2, m2, A2, rfl, rfl, hP2, hB2, hA2, hd2⟩
        · clear HK
          go_wp2_with (first | (go_at_call 10; refine hpick.mono ?_; rintro e w1 ⟨rfl, rfl⟩) | (go_at_call 13; refine hpl.mono ?_; rintro e w2 ⟨rfl, r1⟩; have R1 : Hid _ := r1; clear r1))
          go_roundw
          case rel =>
            obtain ⟨A', h1, h2, h3⟩ := R1.out
            refine ⟨k + 1, by omega, by simp, below_fr HB.out h3 HA.out, A', ⟨_, _, m', rfl, rfl, h1, HBp.out, fun b hb => ?_⟩, .inl ⟨rfl, rfl⟩⟩
            rcases h2 b hb with x | x
            · exact HA.out b x
            · omega
          case measure => simp [intOf]; omega
        · have H2 : Hid (Pr wr p2 q2 m2 A2 ∧ Bd m2 (k + 1) ∧ (∀ b, A2 b → w.heap.size ≤ b) ∧ (∀ b, A b → A2 b → False)) := ⟨hP2, hB2.mono (Nat.le_succ _), hA2, hd2⟩
          clear HK hP2 hB2 hA2 hd2
          go_wp2_with (first | (go_at_call 10; refine hpick.mono ?_; rintro e w1 ⟨rfl, rfl⟩) | (go_at_call 13; refine hpl.mono ?_; rintro e w2 ⟨rfl, r1⟩; have R1 : Hid _ := r1; clear r1; have hP3 : Hid _ := prStay H2.out.1 H2.out.2.2.2 R1.out; have hT := prTells hP3.out) | (go_at_call 14; refine hT.mono ?_; rintro e w4 ⟨rfl, b4⟩; have B4 : Hid _ := b4; clear b4))
          go_roundw
          case rel =>
            obtain ⟨A', h1, h2, h3⟩ := R1.out
            have hs2 := h3.size
            refine ⟨k + 1, by omega, by simp, (below_fr HB.out h3 HA.out).trans (B4.out.mono (by omega)), A', ⟨_, _, m', rfl, rfl, h1.below B4.out, HBp.out, fun b hb => ?_⟩, .inr ⟨_, _, m2, A2, rfl, rfl, Pr.below hP3.out B4.out, H2.out.2.1, H2.out.2.2.1, fun b x y => ?_⟩⟩
            · rcases h2 b hb with x | x
              · exact HA.out b x
              · omega
            · rcases h2 b x with z | z
              · exact H2.out.2.2.2 b z y
              · have := H2.out.1.bd b y; omega
          case measure => simp [intOf]; omega
    · have hkl : k = n := by omega
      subst hkl
      have hT := prTells HPr.out
      clear HK hbel
      go_wp2_with (first | (go_at_call 14; refine hT.mono ?_; rintro e w2 ⟨rfl, b2⟩; have hwk := works_as w2; have B2 : Hid _ := b2; clear b2) | (go_at_call 15; refine hwk.mono ?_; rintro e w3 ⟨rfl, hB3⟩))
      go_ret
      refine ⟨rfl, ?_⟩
      have hs2 := B2.out.size
      exact (HB.out.trans (B2.out.mono hsw)).trans (hB3.mono (by omega))
end Go.Proofs.Ytnnajgbkpilaaaa
