/-
  HeapMore, walked.
-/
import Derived.Test.YtcohgbelcbniaaaUsed
namespace Go.Proofs.Ytcohgbelcbniaaa
open Go.RowKit
set_option linter.unusedVariables false

/-- Two heaps beside what came in, in blocks apart. -/
def Pr2 (A W : World) (p q : Nat) (m g : M) : Prop := ∃ F G, HAt W p m F ∧ HAt W q g G ∧ (∀ b, F b → G b → False) ∧ (∀ b, F b → A.heap.size ≤ b) ∧ (∀ b, G b → A.heap.size ≤ b) ∧ Below A.heap.size A W
theorem Pr2.bel {A W : World} {p q : Nat} {m g : M} (h : Pr2 A W p q m g) : Below A.heap.size A W := by obtain ⟨F, G, _, _, _, _, _, h6⟩ := h; exact h6
theorem Pr2.below {A W W' : World} {p q : Nat} {m g : M} (h : Pr2 A W p q m g) (hb : Below W.heap.size W W') : Pr2 A W' p q m g := by
  obtain ⟨F, G, h1, h2, h3, h4, h5, h6⟩ := h
  exact ⟨F, G, h1.below hb, h2.below hb, h3, h4, h5, h6.trans (hb.mono h6.size)⟩
theorem Pr2.fst {A W W' : World} {p q : Nat} {m m' g : M} {F G : Nat → Prop} (h2 : HAt W q g G) (h3 : ∀ b, F b → G b → False) (h4 : ∀ b, F b → A.heap.size ≤ b) (h5 : ∀ b, G b → A.heap.size ≤ b) (h6 : Below A.heap.size A W) (hr : HRet W p m' F W') : ∃ F', HAt W' p m' F' ∧ HAt W' q g G ∧ (∀ b, F' b → G b → False) ∧ (∀ b, F' b → A.heap.size ≤ b) ∧ Below A.heap.size A W' := by
  obtain ⟨F', k1, k2, k3⟩ := hr
  have hs := h6.size
  refine ⟨F', k1, h2.fr k3 (fun b x y => h3 b y x), fun b x y => ?_, fun b x => ?_, Fr.below ((Fr.of h6).then k3 fun i hi q => by have := h4 i q; omega)⟩
  · rcases k2 b x with q | q
    · exact h3 b q y
    · have := h2.bd b y; omega
  · rcases k2 b x with q | q
    · exact h4 b q
    · omega
/-- A call on both, one behind the other. -/
theorem run2 {A W : World} {p q : Nat} {m g : M} (h : Pr2 A W p q m g) (hn : m.ths.length ≤ 100000) (hg : g.ths.length ≤ 100000) {s : Op} (ho : OpOk A s) (hl : s.text.size ≤ 131072 ∧ s.words.length ≤ 131072) :
    Calls Try.prog 18 #[ptr p, .agg (opV s).toArray] W fun e w2 => e = .returned (.tuple #[.int .u64 (m.runR s), .int .i64 (m.runT s)]) ∧ Below A.heap.size A w2 ∧ Calls Try.prog 18 #[ptr q, .agg (opV s).toArray] w2 fun e w3 => e = .returned (.tuple #[.int .u64 (g.runR s), .int .i64 (g.runT s)]) ∧ Pr2 A w3 p q (m.ran s) (g.ran s) := by
  obtain ⟨F, G, h1, h2, h3, h4, h5, h6⟩ := h
  refine (runH h1 hn ho h6 h4 hl).mono ?_
  rintro e w2 ⟨rfl, hr⟩
  obtain ⟨F', k1, k2, k3, k4, k6⟩ := Pr2.fst (m := m) h2 h3 h4 h5 h6 hr
  refine ⟨rfl, k6, ?_⟩
  refine (runH k2 hg ho k6 h5 hl).mono ?_
  rintro e w3 ⟨rfl, hr2⟩
  obtain ⟨G', j1, j2, j3, j4, j6⟩ := Pr2.fst (m := g) (p := q) (q := p) k1 (fun b x y => k3 b y x) h5 k4 k6 hr2
  exact ⟨rfl, F', G', j2, j1, fun b x y => j3 b y x, k4, j4, j6⟩
theorem used2 {A W : World} {p q : Nat} {m g : M} (h : Pr2 A W p q m g) : (Calls Try.prog 13 #[ptr p] W fun e w' => e = .returned (.int .i64 (m.used : Int)) ∧ W = w') ∧ (Calls Try.prog 13 #[ptr q] W fun e w' => e = .returned (.int .i64 (g.used : Int)) ∧ W = w') := by
  obtain ⟨F, G, h1, h2, _⟩ := h
  exact ⟨usedS h1, usedS h2⟩
theorem new2 (w : World) (L K : Int) (hL : -9223372036854775808 ≤ L ∧ L < 9223372036854775808) (hK : -9223372036854775808 ≤ K ∧ K < 9223372036854775808) : Calls Try.prog 10 #[.int .i64 L] w fun e w1 => e = .returned (ptr w.heap.size) ∧ Calls Try.prog 10 #[.int .i64 K] w1 fun e w2 => ∃ q, e = .returned (ptr q) ∧ Pr2 w w2 w.heap.size q (M.new L) (M.new K) := by
  refine (newS w L hL.1 hL.2).mono ?_
  rintro e w1 ⟨rfl, F, h1, h2, h3⟩
  refine ⟨rfl, ?_⟩
  refine (newS w1 K hK.1 hK.2).mono ?_
  rintro e w2 ⟨rfl, G, k1, k2, k3⟩
  have hs := h3.size
  exact ⟨_, rfl, F, G, h1.below k3, k1, fun b x y => by have := h1.bd b x; have := k2 b y; omega, h2, fun b x => by have := k2 b x; omega, h3.trans (k3.mono hs)⟩
theorem like_new (L K : Int) : Like (M.new L) (M.new (max L K)) := ⟨rfl, rfl, by simp only [M.new]; omega⟩
def MR (w : World) (p q n : Nat) (iv : Value) (wr : World) : Prop := ∃ (k : Nat) (m g : M), k ≤ n ∧ iv = .int .i64 (k : Int) ∧ m.ths.length ≤ k ∧ Like m g ∧ Pr2 w wr p q m g
set_option maxRecDepth 100000 in
set_option maxHeartbeats 4000000 in
theorem more_walk (w : World) (L : Int) (hL : -9223372036854775808 ≤ L ∧ L < 9223372036854775808) (K : Int) (hK : -9223372036854775808 ≤ K ∧ K < 9223372036854775808) (ao : Option Addr) (cap : Nat) (ss : List Op) (hx : OpsAt w ao cap ss) : Calls Try.prog 6 #[.int .i64 L, .int .i64 K, .slice ao ss.length cap] w fun e w' => e = .returned (.bool true) ∧ Below w.heap.size w w' := by
  obtain ⟨n, hn⟩ : ∃ n, Hid (ss.length = n) := ⟨_, rfl⟩
  have hcl := hx.capl
  have hcm := hx.capm
  unfold maxLen at hcm
  rw [hn.out] at hcl ⊢
  have HX : Hid (OpsAt w ao cap ss) := hx
  have hN := new2 w L (max L K) hL ⟨by omega, by omega⟩
  have HSH : Hid (∀ W q, Pr2 w W w.heap.size q (M.new L) (M.new (max L K)) → Calls Try.prog 17 #[.slice ao n cap] W fun e w' => ∃ b, e = .returned (.bool b) ∧ (b = true → ShortOk ss) ∧ Pr2 w w' w.heap.size q (M.new L) (M.new (max L K))) := by
    intro W q hs
    have r := shortS W ao cap ss (HX.out.below hs.bel)
    rw [hn.out] at r
    refine r.mono ?_
    rintro e w' ⟨b, rfl, h1, h2⟩
    exact ⟨b, rfl, h1, hs.below h2⟩
  clear hx
  go_enter Try.func6, Try.ntmps6
  go_upto_region 2 with (first | (go_at_call 10; refine hN.mono ?_; clear hN; rintro e w1 ⟨rfl, hN2⟩) | (go_at_call 10; refine hN2.mono ?_; clear hN2; rintro e w2 ⟨q, rfl, h2⟩; have hsh := HSH.out w2 q h2; clear h2))
  go_wp2_with (first | (go_at_call 17; refine hsh.mono ?_; rintro e w3 ⟨b, rfl, hb, hs2⟩; have HS2 : Hid _ := hs2; have HSO : Hid _ := hb; have hwk := hsWorks hs2.bel; clear hs2 hb hsh; cases b) | (go_at_call 9; refine hwk.mono ?_; rintro e w4 ⟨rfl, hB3⟩))
  · go_ret
    exact ⟨rfl, hB3⟩
  have HO : Hid (ShortOk ss) := HSO.out (by first | rfl | trivial)
  have hn200 : n ≤ 200 := by rw [← hn.out]; exact HO.out.1
  clear hwk HSO HSH
  go_loopw [9] (fun iv wr => MR w w.heap.size q n iv wr) (fun i _ => n - (intOf i).toNat)
  case atStart => exact ⟨0, _, _, Nat.zero_le _, rfl, Nat.le_refl _, like_new L K, HS2.out⟩
  case round =>
    clear HS2
    obtain ⟨k, m, g, hk, rfl, hml, hlk, hs⟩ := hrel
    by_cases hlt : k < n
    · have HL : Hid (k < ss.length) := by unfold Hid; rw [hn.out]; exact hlt
      obtain ⟨bb, o, s, rfl, hsd, hmem, hok, hbl, hc⟩ := HX.out.get hs.bel HL.out
      have HC : Hid (∀ W, Below w.heap.size w W → ∀ j, j < 8 → W.cell? ⟨bb, o + k * 8 + j, none⟩ = (opV s)[j]?) := by
        intro W hB j hj
        obtain ⟨b', o', s', e', e2, -, -, -, hc'⟩ := HX.out.get hB HL.out
        cases e'
        rw [hsd] at e2
        subst e2
        exact hc' j hj
      have c0 := hc 0 (by omega)
      have c1 := hc 1 (by omega)
      have c2 := hc 2 (by omega)
      have c3 := hc 3 (by omega)
      have c4 := hc 4 (by omega)
      have c5 := hc 5 (by omega)
      have c6 := hc 6 (by omega)
      have c7 := hc 7 (by omega)
      have hrun := run2 hs (by omega) (by rw [← hlk.1]; omega) hok (HO.out.2 s hmem)
      have hf := run_facts m s
      have HLR : Hid (m.runT s ≠ 4 → m.runR s = g.runR s ∧ m.runT s = g.runT s ∧ Like (m.ran s) (g.ran s)) := fun h => like_run hlk s h
      have HLEN : Hid ((m.ran s).ths.length ≤ k + 1) := by
        unfold Hid
        by_cases hx : makes s = true ∧ m.runT s = 0
        · have := (hf.made hx.1 hx.2).2; omega
        · have := hf.none (by cases hmk : makes s; exact .inl rfl; exact .inr fun e => hx ⟨hmk, e⟩); omega
      obtain ⟨kd, tx, nn, mm, ws, ref, i, word, wo, wcap⟩ := s
      simp only [opV, List.getElem?_cons_zero, List.getElem?_cons_succ, Nat.add_zero] at c0 c1 c2 c3 c4 c5 c6 c7 hrun
      obtain ⟨m', hm'⟩ : ∃ m', Hid (m.ran ⟨kd, tx, nn, mm, ws, ref, i, word, wo, wcap⟩ = m') := ⟨_, rfl⟩
      obtain ⟨R, hR⟩ : ∃ R, Hid (m.runR ⟨kd, tx, nn, mm, ws, ref, i, word, wo, wcap⟩ = R) := ⟨_, rfl⟩
      obtain ⟨T, hT⟩ : ∃ T, Hid (m.runT ⟨kd, tx, nn, mm, ws, ref, i, word, wo, wcap⟩ = T) := ⟨_, rfl⟩
      obtain ⟨g', hg'⟩ : ∃ m', Hid (g.ran ⟨kd, tx, nn, mm, ws, ref, i, word, wo, wcap⟩ = m') := ⟨_, rfl⟩
      obtain ⟨R2, hR2⟩ : ∃ R, Hid (g.runR ⟨kd, tx, nn, mm, ws, ref, i, word, wo, wcap⟩ = R) := ⟨_, rfl⟩
      obtain ⟨T2, hT2⟩ : ∃ T, Hid (g.runT ⟨kd, tx, nn, mm, ws, ref, i, word, wo, wcap⟩ = T) := ⟨_, rfl⟩
      rw [hm'.out, hR.out, hT.out, hg'.out, hR2.out, hT2.out] at hrun HLR
      rw [hm'.out] at HLEN
      have HCW : Hid (∀ W, Below w.heap.size w W → _) := fun W hB => And.intro (HC.out W hB 0 (by omega)) (And.intro (HC.out W hB 1 (by omega)) (And.intro (HC.out W hB 2 (by omega)) (And.intro (HC.out W hB 3 (by omega)) (And.intro (HC.out W hB 4 (by omega)) (And.intro (HC.out W hB 5 (by omega)) (And.intro (HC.out W hB 6 (by omega)) (HC.out W hB 7 (by omega))))))))
      simp only [opV, List.getElem?_cons_zero, List.getElem?_cons_succ, Nat.add_zero] at HCW
      clear hs hc hok hmem hsd hm' hR hT hg' hR2 hT2 hf hlk HC hbl
      by_cases h4 : T = 4
      · subst h4
        clear HLR HLEN
        go_wp2_with (first
          | (go_at_call 18; refine hrun.mono ?_; clear hrun; rintro e w2 ⟨rfl, hB, hrun2⟩; clear c0 c1 c2 c3 c4 c5 c6 c7; obtain ⟨c0, c1, c2, c3, c4, c5, c6, c7⟩ := HCW.out w2 hB; clear hB)
          | (go_at_call 18; refine hrun2.mono ?_; clear hrun2; rintro e w3 ⟨rfl, h3⟩; have hwk := hsWorks h3.bel; clear h3)
          | (go_at_call 9; refine hwk.mono ?_; rintro e w4 ⟨rfl, hB3⟩))
        go_ret
        exact ⟨rfl, hB3⟩
      · obtain ⟨rfl, rfl, hlk2⟩ := HLR.out h4
        have HLK : Hid (Like m' g') := hlk2
        have HUS : Hid (∀ W, Pr2 w W w.heap.size q m' g' → (Calls Try.prog 13 #[ptr w.heap.size] W fun e w' => e = .returned (.int .i64 (m'.used : Int)) ∧ W = w') ∧ (Calls Try.prog 13 #[ptr q] W fun e w' => e = .returned (.int .i64 (m'.used : Int)) ∧ W = w')) := by
          intro W h
          have := used2 h
          rwa [← HLK.out.2.1] at this
        clear hlk2 HLR
        have h4b : (T == 4) = false := by simpa using h4
        go_wp2_with (first
          | (go_at_call 18; refine hrun.mono ?_; clear hrun; rintro e w2 ⟨rfl, hB, hrun2⟩; clear c0 c1 c2 c3 c4 c5 c6 c7; obtain ⟨c0, c1, c2, c3, c4, c5, c6, c7⟩ := HCW.out w2 hB; clear hB)
          | (go_at_call 18; refine hrun2.mono ?_; clear hrun2; rintro e w3 ⟨rfl, h3⟩; obtain ⟨hu1, hu2⟩ := HUS.out w3 h3; have H3 : Hid _ := h3; clear h3)
          | (go_at_call 13; refine hu1.mono ?_; clear hu1; rintro e w4 ⟨rfl, rfl⟩)
          | (go_at_call 13; refine hu2.mono ?_; clear hu2; rintro e w4 ⟨rfl, rfl⟩))
        go_roundw
        case rel => exact ⟨k + 1, m', g', hlt, by simp, HLEN.out, HLK.out, H3.out⟩
        case measure => simp [intOf]; omega
    · have hwk := hsWorks hs.bel
      clear hs hlk
      go_wp2_with (go_at_call 9; refine hwk.mono ?_; rintro e w3 ⟨rfl, hB⟩)
      go_ret
      exact ⟨rfl, hB⟩
end Go.Proofs.Ytcohgbelcbniaaa
