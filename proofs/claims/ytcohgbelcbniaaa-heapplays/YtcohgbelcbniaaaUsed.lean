/-
  HeapUsed, walked.
-/
import Derived.Test.YtcohgbelcbniaaaRunM
import Derived.Test.YtcohgbelcbniaaaShort
namespace Go.Proofs.Ytcohgbelcbniaaa
open Go.RowKit
set_option linter.unusedVariables false

theorem WordsAt.back {A W : World} {ao : Option Addr} {cap : Nat} {xs : List Int} (h : WordsAt A ao cap xs) (hb : Below A.heap.size A W) : WordsAt W ao cap xs := h.below hb
theorem OpsAt.below {A W : World} {ao : Option Addr} {cap : Nat} {ss : List Op} (h : OpsAt A ao cap ss) (hb : Below A.heap.size A W) : OpsAt W ao cap ss := by
  refine ⟨fun s hs => ?_, ?_, h.capl, h.capm⟩
  · have q := h.ok s hs
    exact ⟨q.txt, q.wl, q.kd, q.n, q.m, q.ref, q.i, q.word, q.ws.below hb⟩
  · rcases h.cell with q | ⟨b, o, e, hl, hc⟩
    · exact .inl q
    · refine .inr ⟨b, o, e, Nat.lt_of_lt_of_le hl hb.size, fun i hi j hj => ?_⟩
      rw [World.cell?_of_block (a := ⟨b, o + i * 8 + j, none⟩) (hb.block b hl)]
      exact hc i hi j hj
/-- One call on a heap behind a copy of the call in a block of its own. -/
theorem runBox {A W : World} {p : Nat} {m : M} (h : Hs A W p m) (hn : m.ths.length ≤ 100000) {s : Op} (ho : OpOk A s) (hl : s.text.size ≤ 131072 ∧ s.words.length ≤ 131072) :
    Calls Try.prog 18 #[ptr p, .agg (opV s).toArray] (W.alloc (.cells (opV s).toArray 26)) fun e w' => e = .returned (.tuple #[.int .u64 (m.runR s), .int .i64 (m.runT s)]) ∧ w'.cell? ⟨W.heap.size, 0, none⟩ = some (.int .i64 s.kind) ∧ Hs A w' p (m.ran s) := by
  have hbb : Below W.heap.size W (W.alloc (.cells (opV s).toArray 26)) := (Below.refl _ W).alloc (Nat.le_refl _) _
  have hbox := Own.new W (opV s).toArray 26
  obtain ⟨F, h1, h2, h3⟩ := h.below hbb
  obtain ⟨F0, g1, g2, g3⟩ := h
  have h1' := g1.below hbb
  refine (runH h1' hn ho (g3.trans (hbb.mono g3.size)) g2 hl).mono ?_
  rintro e w' ⟨rfl, hr⟩
  obtain ⟨F', k1, k2, k3⟩ := hr
  have hb2 : Own w' W.heap.size (opV s).toArray 26 := hbox.fr k3 (fun q => by have := g1.bd _ q; omega)
  exact ⟨rfl, (own8 hb2).1, Hs.next g2 (g3.trans (hbb.mono g3.size)) ⟨F', k1, k2, k3⟩⟩
def UR (w : World) (p : Nat) (lim : Nat) (n : Nat) (uv nv iv : Value) (wr : World) : Prop := ∃ (k : Nat) (m : M), k ≤ n ∧ iv = .int .i64 (k : Int) ∧ uv = .int .i64 (m.used : Int) ∧ nv = .int .u64 ((m.ths.length : Int) + 1) ∧ m.limit = lim ∧ m.ths.length ≤ k ∧ Hs w wr p m
set_option maxRecDepth 100000 in
set_option maxHeartbeats 4000000 in
theorem used_walk (w : World) (L : Int) (hL : -9223372036854775808 ≤ L ∧ L < 9223372036854775808) (ao : Option Addr) (cap : Nat) (ss : List Op) (hx : OpsAt w ao cap ss) : Calls Try.prog 5 #[.int .i64 L, .slice ao ss.length cap] w fun e w' => e = .returned (.bool true) ∧ Below w.heap.size w w' := by
  obtain ⟨n, hn⟩ : ∃ n, Hid (ss.length = n) := ⟨_, rfl⟩
  have hcl := hx.capl
  have hcm := hx.capm
  unfold maxLen at hcm
  rw [hn.out] at hcl ⊢
  have HX : Hid (OpsAt w ao cap ss) := hx
  have hN := hsNew w L hL.1 hL.2
  have HSH : Hid (∀ W, Hs w W w.heap.size (M.new L) → Calls Try.prog 17 #[.slice ao n cap] W fun e w' => ∃ b, e = .returned (.bool b) ∧ (b = true → ShortOk ss) ∧ Hs w w' w.heap.size (M.new L)) := by
    intro W hs
    have q := shortS W ao cap ss (HX.out.below hs.bel)
    rw [hn.out] at q
    refine q.mono ?_
    rintro e w' ⟨b, rfl, h1, h2⟩
    exact ⟨b, rfl, h1, hs.below h2⟩
  have HLIM : Hid (((M.new L).limit : Int) = min (max L 0) 1048576) := by unfold Hid; simp only [M.new]; omega
  clear hx
  go_enter Try.func5, Try.ntmps5
  go_upto_region 2 with (go_at_call 10; refine hN.mono ?_; rintro e w1 ⟨rfl, h1⟩; have hsh := HSH.out w1 h1; clear h1)
  go_wp2_with (first | (go_at_call 17; refine hsh.mono ?_; rintro e w2 ⟨b, rfl, hb, hs2⟩; have HS2 : Hid _ := hs2; have HSO : Hid _ := hb; have hwk := hsWorks hs2.bel; clear hs2 hb; cases b) | (go_at_call 9; refine hwk.mono ?_; rintro e w3 ⟨rfl, hB3⟩))
  · go_ret
    exact ⟨rfl, hB3⟩
  have HO : Hid (ShortOk ss) := HSO.out (by first | rfl | trivial)
  have hn200 : n ≤ 200 := by rw [← hn.out]; exact HO.out.1
  clear hwk HSO hsh hN
  go_loopw [6, 7, 8] (fun uv nv iv wr => UR w w.heap.size (M.new L).limit n uv nv iv wr) (fun _ _ i _ => n - (intOf i).toNat)
  case atStart => exact ⟨0, M.new L, Nat.zero_le _, rfl, rfl, rfl, rfl, Nat.le_refl _, HS2.out⟩
  case round =>
    clear HS2 HSH
    obtain ⟨k, m, hk, rfl, rfl, rfl, hm, hml, hs⟩ := hrel
    by_cases hlt : k < n
    · have HL : Hid (k < ss.length) := by unfold Hid; rw [hn.out]; exact hlt
      obtain ⟨bb, o, s, rfl, hsd, hmem, hok, hbl, hc⟩ := HX.out.get hs.bel HL.out
      have c0 := hc 0 (by omega)
      have c1 := hc 1 (by omega)
      have c2 := hc 2 (by omega)
      have c3 := hc 3 (by omega)
      have c4 := hc 4 (by omega)
      have c5 := hc 5 (by omega)
      have c6 := hc 6 (by omega)
      have c7 := hc 7 (by omega)
      have hrun := runBox hs (by omega) hok (HO.out.2 s hmem)
      have hf := run_facts m s
      have hmks : makes s = decide (0 ≤ s.kind ∧ s.kind ≤ 4) := rfl
      obtain ⟨kd, tx, nn, mm, ws, ref, i, word, wo, wcap⟩ := s
      simp only [opV, List.getElem?_cons_zero, List.getElem?_cons_succ, Nat.add_zero] at c0 c1 c2 c3 c4 c5 c6 c7 hrun
      simp only at hmks
      rw [hmks] at hf
      have hi2 : Hid (∀ w', Hs w w' w.heap.size (m.ran ⟨kd, tx, nn, mm, ws, ref, i, word, wo, wcap⟩) → Inv (m.ran ⟨kd, tx, nn, mm, ws, ref, i, word, wo, wcap⟩)) := fun w' h => h.inv
      obtain ⟨m', hm'⟩ : ∃ m', Hid (m.ran ⟨kd, tx, nn, mm, ws, ref, i, word, wo, wcap⟩ = m') := ⟨_, rfl⟩
      obtain ⟨R, hR⟩ : ∃ R, Hid (m.runR ⟨kd, tx, nn, mm, ws, ref, i, word, wo, wcap⟩ = R) := ⟨_, rfl⟩
      obtain ⟨T, hT⟩ : ∃ T, Hid (m.runT ⟨kd, tx, nn, mm, ws, ref, i, word, wo, wcap⟩ = T) := ⟨_, rfl⟩
      rw [hm'.out, hR.out, hT.out] at hf hrun
      rw [hm'.out] at hi2
      obtain ⟨f1, f2, f3, f4, f5⟩ := hf
      have HF : Hid (m'.limit = (M.new L).limit) := by unfold Hid; rw [f1, hm]
      obtain ⟨U0, hU0⟩ : ∃ U, Hid (m.used = U) := ⟨_, rfl⟩
      obtain ⟨U1, hU1⟩ : ∃ U, Hid (m'.used = U) := ⟨_, rfl⟩
      obtain ⟨q0, hq0⟩ : ∃ U, Hid (m.ths.length = U) := ⟨_, rfl⟩
      obtain ⟨q1, hq1⟩ : ∃ U, Hid (m'.ths.length = U) := ⟨_, rfl⟩
      have HU1 : Hid (∀ w', Hs w w' w.heap.size m' → U1 ≤ (M.new L).limit) := fun w' h => by rw [← hU1.out, ← HF.out]; exact h.inv.used
      have HUS : Hid (∀ w', Hs w w' w.heap.size m' → Calls Try.prog 13 #[ptr w.heap.size] w' fun e w'' => e = .returned (.int .i64 (U1 : Int)) ∧ w' = w'') := fun w' h => by
        have := hsUsed h
        rwa [hU1.out] at this
      have HREL : Hid (∀ w', Hs w w' w.heap.size m' → q1 ≤ k + 1 → UR w w.heap.size (M.new L).limit n (.int .i64 (U1 : Int)) (.int .u64 ((q1 : Int) + 1)) (.int .i64 ((k : Int) + 1)) w') := fun w' h hq => ⟨k + 1, m', hlt, by simp, by rw [hU1.out], by rw [hq1.out], HF.out, by rw [hq1.out]; exact hq, h⟩
      rw [hU0.out, hU1.out] at f2 f3
      rw [hq0.out, hq1.out] at f4 f5
      rw [hq0.out] at hml
      rw [hU0.out, hq0.out]
      have HLI : Hid (∀ x : Nat, x ≤ (M.new L).limit → (x : Int) ≤ max L 0 ∧ x ≤ 1048576) := fun x hx => by have := HLIM.out; omega
      have HALL : Hid ((∀ w', Hs w w' w.heap.size m' → (U1 : Int) ≤ max L 0 ∧ U1 ≤ 1048576)) := fun w' h => HLI.out U1 (HU1.out w' h)
      clear hs hc hok hmem hsd hm hi2 hm' hR hT hU0 hU1 hq0 hq1 hmks HLIM HLI HU1 f1 hbl
      have hcase : (T ≠ 0 ∧ R = 0 ∧ U1 = U0 ∧ q1 = q0 ∧ (kd < 0 ∨ 4 < kd ∨ (0 ≤ kd ∧ kd ≤ 4))) ∨ (T = 0 ∧ 0 ≤ kd ∧ kd ≤ 4 ∧ R = (q0 : Int) + 1 ∧ q1 = q0 + 1) ∨ (T = 0 ∧ (kd < 0 ∨ 4 < kd) ∧ q1 = q0) := by
        by_cases hT : T = 0
        · by_cases hkd : 0 ≤ kd ∧ kd ≤ 4
          · obtain ⟨x1, x2⟩ := f4 (by simpa using hkd) hT
            exact .inr (.inl ⟨hT, hkd.1, hkd.2, x1, x2⟩)
          · exact .inr (.inr ⟨hT, by omega, f5 (.inl (by simpa using hkd))⟩)
        · obtain ⟨x1, x2⟩ := f3 hT
          exact .inl ⟨hT, x1, x2, f5 (.inr hT), by omega⟩
      clear f3 f4 f5
      rcases hcase with ⟨hT, rfl, rfl, rfl, hkd | hkd | hkd⟩ | ⟨rfl, hk1, hk2, rfl, rfl⟩ | ⟨rfl, hkd | hkd, rfl⟩
      case' inl.inr.inl => have hkn : ¬ kd < 0 := by omega
      case' inl.inr.inr => obtain ⟨hk1, hk2⟩ := hkd
      case' inr.inr.inr => have hkn : ¬ kd < 0 := by omega
      all_goals
        go_wp2_with (first
          | (go_at_call 18; refine hrun.mono ?_; rintro e w2 ⟨rfl, d0, h2⟩; have hu := HUS.out w2 h2; obtain ⟨a1, a2⟩ := HALL.out w2 h2; have H2 : Hid _ := h2; clear h2 hrun)
          | (go_at_call 13; refine hu.mono ?_; rintro e w3 ⟨rfl, rfl⟩))
        go_roundw
        case rel => first | exact HREL.out _ H2.out (by omega) | (have := HREL.out _ H2.out (by omega); simpa using this)
        case measure => simp [intOf]; omega
    · have hkn : k = n := by omega
      subst hkn
      have hty := hsType hs (by omega) ((m.ths.length : Int) + 1) (by omega) (by omega)
      rw [at_none (.inr (by omega))] at hty
      have HW : Hid (∀ w', Hs w w' w.heap.size m → Calls Try.prog 9 #[] w' fun e w'' => e = .returned (.bool true) ∧ Below w.heap.size w w'') := fun w' h => hsWorks h.bel
      clear hs
      go_wp2_with (first | (go_at_call 19; refine hty.mono ?_; rintro e w2 ⟨rfl, h2⟩; have hwk := HW.out w2 h2; clear h2) | (go_at_call 9; refine hwk.mono ?_; rintro e w3 ⟨rfl, hB⟩))
      go_ret
      exact ⟨rfl, hB⟩
end Go.Proofs.Ytcohgbelcbniaaa
