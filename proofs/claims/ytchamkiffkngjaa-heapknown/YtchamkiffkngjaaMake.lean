/-
  CONTRACTS of the landed heap's calls that make things: Const, Text, Record, Empty.
-/
import Derived.Test.YtchamkiffkngjaaMade
namespace Go.Proofs.Ytchamkiffkngjaa
open Go.RowKit
set_option linter.unusedVariables false

theorem ret_kept {w w1 w2 w3 : World} {p : Nat} {m1 : M} {F F1 : Nat → Prop} {b : Nat} {v : Value} (a2 : ∀ b, F1 b → F b ∨ w.heap.size ≤ b) (a3 : Fr F w w1) (hB : Below w1.heap.size w1 w2) (hb : w1.heap.size ≤ b) (hv : ∀ g, v.ownBlock = some g → w1.heap.size ≤ g) (hk : ∃ F', HAt w3 p m1 F' ∧ (∀ x, F' x → F1 x ∨ w2.heap.size ≤ x ∨ x = b ∨ v.ownBlock = some x) ∧ Fr F1 w2 w3) : HRet w p m1 F w3 := by
  obtain ⟨F', k1, k2, k3⟩ := hk
  have s1 := a3.size
  have s2 := hB.size
  refine ⟨F', k1, fun x hx => ?_, (a3.trans (Fr.of hB)).then k3 fun i hi q => ?_⟩
  · rcases k2 x hx with q | q | q | q
    · exact a2 x q
    · exact .inr (by omega)
    · exact .inr (by omega)
    · have := hv x q; exact .inr (by omega)
  · rcases a2 i q with q | q
    · exact q
    · omega
theorem made_paid {m : M} {c : Nat} (t : Th) (h : m.used + c ≤ m.limit) : m.made t c = (m.paid c).keep t ∧ m.madeR c = (m.ths.length : Int) + 1 ∧ m.madeT c = 0 ∧ m.pays c = true := by
  unfold M.made M.madeR M.madeT M.pays
  rw [if_pos h, if_pos h, if_pos h]
  exact ⟨rfl, rfl, rfl, by simpa using h⟩
theorem made_not {m : M} {c : Nat} (t : Th) (h : ¬ m.used + c ≤ m.limit) : m.made t c = m ∧ m.madeR c = 0 ∧ m.madeT c = 4 ∧ m.pays c = false ∧ m.paid c = m := by
  unfold M.made M.madeR M.madeT M.pays M.paid
  rw [if_neg h, if_neg h, if_neg h, if_neg h]
  exact ⟨rfl, rfl, rfl, by simpa using h, rfl⟩
theorem paid_used {m : M} {c : Nat} (h : m.used + c ≤ m.limit) : (m.paid c).used = m.used + c := by unfold M.paid; rw [if_pos h]
theorem tText_inv {s : ByteArray} (hs : s.size ≤ 281474976710656) (u : Nat) : TInv (tText s) u := ⟨by simp [tText], by simp [tText], by simp [tText], by simp only [tText]; unfold maxLen; omega, by simp [tText], by simp [tText]⟩
set_option maxHeartbeats 1000000 in
theorem constS {w : World} {p : Nat} {m : M} {F : Nat → Prop} (h : HAt w p m F) (hn : m.ths.length ≤ 100000) (s : ByteArray) (hs : s.size ≤ 281474976710656) : Calls Try.prog 5 #[ptr p, .string s] w fun e w' => e = .returned (.int .u64 ((m.ths.length : Int) + 1)) ∧ HRet w p (m.keep (tText s)) F w' := by
  have hsc := h
  obtain ⟨vt, bs, vs, H, hF, hl⟩ := h
  obtain ⟨c0, -, -, -, hf⟩ := own4 H.own
  have hc := newTextS w s hs
  have HK : Hid (∀ w1 b, ThIn w1 b (.slice none 0 0) (tText s) → w.heap.size ≤ b → Below w.heap.size w w1 → Calls Try.prog 19 #[ptr p, .iface 47 (ptr b)] w1 fun e w' => e = .returned (.int .u64 ((m.ths.length : Int) + 1)) ∧ HRet w p (m.keep (tText s)) F w') := by
    intro w1 b k1 k2 k3
    refine (keepS (hsc.below k3) (by omega) (tText s) b (.slice none 0 0) k1 (fun q => by have := hl b q; omega) (fun g hg => by simp [Value.ownBlock] at hg) (tText_inv hs _)).mono ?_
    rintro e w' ⟨rfl, hk⟩
    exact ⟨rfl, ret_kept (w1 := w) (F1 := F) (fun b q => .inl q) (Fr.refl _ _) k3 k2 (fun g hg => by simp [Value.ownBlock] at hg) hk⟩
  clear H hF hl hsc
  go_enter Try.func5, Try.ntmps5
  go_wp2_with (first | (go_at_call 20; refine hc.mono ?_; rintro e w1 ⟨b, rfl, k1, k2, k3⟩; have hk := HK.out w1 b k1 k2 k3; clear k1 k2 k3) | (go_at_call 19; refine hk.mono ?_; rintro e w2 ⟨rfl, hr⟩; have HR : Hid _ := hr; clear hr))
  go_ret
  exact ⟨rfl, HR.out⟩
def M.textR (m : M) (s : ByteArray) : Int := if 65536 < s.size then 0 else m.madeR (cText s)
def M.textT (m : M) (s : ByteArray) : Int := if 65536 < s.size then 3 else m.madeT (cText s)
def M.texted (m : M) (s : ByteArray) : M := if 65536 < s.size then m else m.made (tText s) (cText s)
set_option maxHeartbeats 1000000 in
theorem textS {w : World} {p : Nat} {m : M} {F : Nat → Prop} (h : HAt w p m F) (hn : m.ths.length ≤ 100000) (s : ByteArray) (hs : s.size ≤ maxLen) : Calls Try.prog 7 #[ptr p, .string s] w fun e w' => e = .returned (.tuple #[.int .u64 (m.textR s), .int .i64 (m.textT s)]) ∧ HRet w p (m.texted s) F w' := by
  unfold M.textR M.textT M.texted
  unfold maxLen at hs
  by_cases hbig : 65536 < s.size
  · rw [if_pos hbig, if_pos hbig, if_pos hbig]
    have HR : Hid (HRet w p m F w) := HRet.same h (Below.refl _ _)
    clear h
    go_enter Try.func7, Try.ntmps7
    go_wp2_with fail
    go_ret2
    exact ⟨rfl, HR.out⟩
  rw [if_neg hbig, if_neg hbig, if_neg hbig]
  have hs2 : s.size ≤ 65536 := by omega
  have hp := payS h (cText s) (by unfold cText; omega)
  have ec : ((cText s : Nat) : Int) = 1 + ((s.size : Int) + 7) / 8 := by unfold cText; omega
  rw [ec] at hp
  clear ec hbig hs
  by_cases hpay : m.used + cText s ≤ m.limit
  · obtain ⟨e1, e2, e3, e4⟩ := made_paid (tText s) hpay
    rw [e1, e2, e3]
    rw [e4] at hp
    have HK : Hid (∀ w1, HRet w p (m.paid (cText s)) F w1 → ∀ w2 b, ThIn w2 b (.slice none 0 0) (tText s) → w1.heap.size ≤ b → Below w1.heap.size w1 w2 → Calls Try.prog 19 #[ptr p, .iface 47 (ptr b)] w2 fun e w' => e = .returned (.int .u64 ((m.ths.length : Int) + 1)) ∧ HRet w p ((m.paid (cText s)).keep (tText s)) F w') := by
      intro w1 hr w2 b k1 k2 k3
      obtain ⟨F1, a1, a2, a3⟩ := hr
      have hq := keepS (a1.below k3) (by rw [(paid_ths m _).1]; omega) (tText s) b (.slice none 0 0) k1 (fun q => by have := a1.bd b q; omega) (fun g hg => by simp [Value.ownBlock] at hg) (tText_inv (by omega) _)
      rw [(paid_ths m _).1] at hq
      refine hq.mono ?_
      rintro e w' ⟨rfl, hk⟩
      exact ⟨rfl, ret_kept a2 a3 k3 k2 (fun g hg => by simp [Value.ownBlock] at hg) hk⟩
    have HC : Hid (∀ w1, Calls Try.prog 20 #[.string s] w1 fun e w' => ∃ b, e = .returned (ptr b) ∧ ThIn w' b (.slice none 0 0) (tText s) ∧ w1.heap.size ≤ b ∧ Below w1.heap.size w1 w') := fun w1 => newTextS w1 s (by omega)
    clear h hpay e1 e2 e3 e4
    go_enter Try.func7, Try.ntmps7
    go_wp2_with (first | (go_at_call 21; refine hp.mono ?_; rintro e w1 ⟨rfl, hr⟩; have hc := HC.out w1; have H1 : Hid _ := hr; clear hr) | (go_at_call 20; refine hc.mono ?_; rintro e w2 ⟨b, rfl, k1, k2, k3⟩; have hk := HK.out w1 H1.out w2 b k1 k2 k3; clear k1 k2 k3) | (go_at_call 19; refine hk.mono ?_; rintro e w3 ⟨rfl, hr⟩; have HR : Hid _ := hr; clear hr))
    go_ret2
    exact ⟨rfl, HR.out⟩
  · obtain ⟨e1, e2, e3, e4, e5⟩ := made_not (tText s) hpay
    rw [e1, e2, e3]
    rw [e4, e5] at hp
    clear h hpay e1 e2 e3 e4 e5
    go_enter Try.func7, Try.ntmps7
    go_wp2_with (go_at_call 21; refine hp.mono ?_; rintro e w1 ⟨rfl, hr⟩; have HR : Hid _ := hr; clear hr)
    go_ret2
    exact ⟨rfl, HR.out⟩
theorem tRec_inv {t : Int} {ws : List Int} {u : Nat} (h : ws.length ≤ u) (hb : ∀ x ∈ ws, 0 ≤ x ∧ x < 18446744073709551616) : TInv (tRec t ws) u := ⟨by simp [tRec], h, by simp [tRec], (show (0 : Nat) ≤ maxLen from Nat.zero_le _), by simp [tRec], hb⟩
set_option maxHeartbeats 1000000 in
theorem recordS {w : World} {p : Nat} {m : M} {F : Nat → Prop} (h : HAt w p m F) (hn : m.ths.length ≤ 100000) (t : Int) (ao : Option Addr) (cap : Nat) (ws : List Int) (hw : WordsAt w ao cap ws) (hao : ws ≠ [] → ∀ b o, ao = some ⟨b, o, none⟩ → b < w.heap.size → ¬ F b) (hl : ws.length ≤ 10000000) :
    Calls Try.prog 8 #[ptr p, .int .i64 t, .slice ao ws.length cap] w fun e w' => e = .returned (.tuple #[.int .u64 (m.madeR (1 + ws.length)), .int .i64 (m.madeT (1 + ws.length))]) ∧ HRet w p (m.made (tRec t ws) (1 + ws.length)) F w' := by
  have hp := payS h (1 + ws.length) (by omega)
  have hbits := hw.bits
  have hcl := hw.capl
  have hcm := hw.capm
  have HW : Hid (∀ w1, Fr F w w1 → WordsAt w1 ao cap ws) := fun w1 hf => hw.same hf.size fun hne b o e hl => hf.block b hl (hao hne b o e hl)
  by_cases hpay : m.used + (1 + ws.length) ≤ m.limit
  · obtain ⟨e1, e2, e3, e4⟩ := made_paid (tRec t ws) hpay
    rw [e1, e2, e3]
    rw [e4] at hp
    have hpu := paid_used hpay
    have HC : Hid (∀ w1, HRet w p (m.paid (1 + ws.length)) F w1 → Calls Try.prog 22 #[.slice ao ws.length cap] w1 fun e w' => ∃ ao' cap', e = .returned (.slice ao' ws.length cap') ∧ ∀ W, W = w'.alloc (.cells #[.int .i64 t, .slice ao' ws.length cap'] 57) → Calls Try.prog 19 #[ptr p, .iface 50 (ptr w'.heap.size)] W fun e w'' => e = .returned (.int .u64 ((m.ths.length : Int) + 1)) ∧ HRet w p ((m.paid (1 + ws.length)).keep (tRec t ws)) F w'') := by
      intro w1 hr
      obtain ⟨F1, a1, a2, a3⟩ := hr
      refine (cloneU w1 ao cap ws (HW.out w1 a3) hl).mono ?_
      rintro e w2 ⟨ao', cap', rfl, k1, k2, k3⟩
      refine ⟨ao', cap', rfl, ?_⟩
      rintro W rfl
      have k4 : Below w1.heap.size w1 (w2.alloc (.cells #[.int .i64 t, .slice ao' ws.length cap'] 57)) := k3.trans (((Below.refl _ w2).alloc (Nat.le_refl _) _).mono k3.size)
      have hs := k3.size
      have hti : ThIn (w2.alloc (.cells #[.int .i64 t, .slice ao' ws.length cap'] 57)) w2.heap.size (.slice ao' ws.length cap') (tRec t ws) := ⟨Own.new w2 #[.int .i64 t, .slice ao' ws.length cap'] 57, k1.alloc _⟩
      have hq := keepS (a1.below k4) (by rw [(paid_ths m _).1]; omega) (tRec t ws) w2.heap.size (.slice ao' ws.length cap') hti (fun q => by have := a1.bd _ q; omega) (fun g hg q => by have := a1.bd _ q; have := k2 g hg; omega) (tRec_inv (by rw [hpu]; omega) hbits)
      rw [(paid_ths m _).1] at hq
      refine hq.mono ?_
      rintro e w' ⟨rfl, hk⟩
      exact ⟨rfl, ret_kept a2 a3 k4 hs k2 hk⟩
    obtain ⟨n, hnn⟩ : ∃ n, Hid (ws.length = n) := ⟨_, rfl⟩
    rw [hnn.out] at HC hp hcl hl ⊢
    have ec : ((1 + n : Nat) : Int) = 1 + (n : Int) := by omega
    rw [ec] at hp
    unfold maxLen at hcm
    clear h hpay e1 e2 e3 e4 hw hao hbits hpu ec hnn HW
    go_enter Try.func8, Try.ntmps8
    go_wp2_with (first | (go_at_call 21; refine hp.mono ?_; rintro e w1 ⟨rfl, hr⟩; have hc := HC.out w1 hr; clear hr) | (go_at_call 22; refine hc.mono ?_; rintro e w2 ⟨ao', cap', rfl, hq⟩; have hk := hq _ rfl; clear hq) | (go_at_call 19; refine hk.mono ?_; rintro e w3 ⟨rfl, hr⟩; have HR : Hid _ := hr; clear hr))
    go_ret2
    exact ⟨rfl, HR.out⟩
  · obtain ⟨e1, e2, e3, e4, e5⟩ := made_not (tRec t ws) hpay
    rw [e1, e2, e3]
    rw [e4, e5] at hp
    obtain ⟨n, hnn⟩ : ∃ n, Hid (ws.length = n) := ⟨_, rfl⟩
    rw [hnn.out] at hp hcl hl ⊢
    have ec : ((1 + n : Nat) : Int) = 1 + (n : Int) := by omega
    rw [ec] at hp
    unfold maxLen at hcm
    clear h hpay e1 e2 e3 e4 e5 hw hao hbits ec hnn HW
    go_enter Try.func8, Try.ntmps8
    go_wp2_with (go_at_call 21; refine hp.mono ?_; rintro e w1 ⟨rfl, hr⟩; have HR : Hid _ := hr; clear hr)
    go_ret2
    exact ⟨rfl, HR.out⟩
theorem tGrow_inv (t : Int) (u : Nat) : TInv (tGrow t) u := ⟨by simp [tGrow], by simp [tGrow], by simp [tGrow], (show (0 : Nat) ≤ maxLen from Nat.zero_le _), by simp [tGrow], by simp [tGrow]⟩
set_option maxHeartbeats 1000000 in
theorem emptyS {w : World} {p : Nat} {m : M} {F : Nat → Prop} (h : HAt w p m F) (hn : m.ths.length ≤ 100000) (t : Int) :
    Calls Try.prog 11 #[ptr p, .int .i64 t] w fun e w' => e = .returned (.tuple #[.int .u64 (m.madeR 1), .int .i64 (m.madeT 1)]) ∧ HRet w p (m.made (tGrow t) 1) F w' := by
  have hp := payS h 1 (by omega)
  by_cases hpay : m.used + 1 ≤ m.limit
  · obtain ⟨e1, e2, e3, e4⟩ := made_paid (tGrow t) hpay
    rw [e1, e2, e3]
    rw [e4] at hp
    have HC : Hid (∀ w2, HRet w p (m.paid 1) F w2 → Calls Try.prog 19 #[ptr p, .iface 60 (ptr w2.heap.size)] (w2.alloc (.cells #[.int .i64 t, .slice none 0 0] 61)) fun e w'' => e = .returned (.int .u64 ((m.ths.length : Int) + 1)) ∧ HRet w p ((m.paid 1).keep (tGrow t)) F w'') := by
      intro w2 hr
      obtain ⟨F1, a1, a2, a3⟩ := hr
      have k4 : Below w2.heap.size w2 (w2.alloc (.cells #[.int .i64 t, .slice none 0 0] 61)) := (Below.refl _ w2).alloc (Nat.le_refl _) _
      have hti : ThIn (w2.alloc (.cells #[.int .i64 t, .slice none 0 0] 61)) w2.heap.size (.slice none 0 0) (tGrow t) := ⟨Own.new w2 #[.int .i64 t, .slice none 0 0] 61, World.ownsRow_nil _ 0 24 1⟩
      have hq := keepS (a1.below k4) (by rw [(paid_ths m _).1]; omega) (tGrow t) w2.heap.size (.slice none 0 0) hti (fun q => by have := a1.bd _ q; omega) (fun g hg q => by simp [Value.ownBlock] at hg) (tGrow_inv t _)
      rw [(paid_ths m _).1] at hq
      refine hq.mono ?_
      rintro e w' ⟨rfl, hk⟩
      exact ⟨rfl, ret_kept a2 a3 k4 (Nat.le_refl _) (fun g hg => by simp [Value.ownBlock] at hg) hk⟩
    clear h hpay e1 e2 e3 e4
    go_enter Try.func11, Try.ntmps11
    go_wp2_with (first | (go_at_call 21; refine hp.mono ?_; rintro e w1 ⟨rfl, hr⟩; have hk := HC.out w1 hr; clear hr) | (go_at_call 19; refine hk.mono ?_; rintro e w3 ⟨rfl, hr⟩; have HR : Hid _ := hr; clear hr))
    go_ret2
    exact ⟨rfl, HR.out⟩
  · obtain ⟨e1, e2, e3, e4, e5⟩ := made_not (tGrow t) hpay
    rw [e1, e2, e3]
    rw [e4, e5] at hp
    clear h hpay e1 e2 e3 e4 e5
    go_enter Try.func11, Try.ntmps11
    go_wp2_with (go_at_call 21; refine hp.mono ?_; rintro e w1 ⟨rfl, hr⟩; have HR : Hid _ := hr; clear hr)
    go_ret2
    exact ⟨rfl, HR.out⟩
end Go.Proofs.Ytchamkiffkngjaa
