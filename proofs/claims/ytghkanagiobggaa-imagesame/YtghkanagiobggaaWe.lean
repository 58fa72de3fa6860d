/-
  THE WRITER OF A BODY: has, put, number, text.
-/
import Derived.Test.YtghkanagiobggaaLb
import Derived.Test.YtghkanagiobggaaV4
namespace Go.Proofs.Ytghkanagiobggaa
open Go.RowKit
set_option linter.unusedVariables false

/-- What a writer has written, and whether it has no room. -/
abbrev Ws := List Nat × Bool
def room : Nat := 2097140
def Ws.put (s : Ws) (ys : List Nat) : Ws := if s.2 = true then s else if room < s.1.length + ys.length then (s.1, true) else (s.1 ++ ys, false)
/-- A writer in memory, its row in blocks from B on. -/
def IwAt (w : World) (p B : Nat) (s : Ws) : Prop := s.1.length ≤ room ∧ ∃ a c, Own w p #[.slice a s.1.length c, .bool s.2] 60 ∧ Rw w 5 1 (.slice a s.1.length c) s.1.length (nums s.1) ∧ ∀ b, (Value.slice a s.1.length c).ownBlock = some b → B ≤ b
/-- What a writer's call keeps: all blocks but its own, and all that hold no bytes. -/
structure IwFr (p B : Nat) (w w' : World) : Prop where
  fr : Fr (fun b => b = p ∨ B ≤ b) w w'
  typ : ∀ g cs t, Own w g cs t → t ≠ 5 → g ≠ p → Own w' g cs t
theorem IwFr.trans {p B : Nat} {a b c : World} (h : IwFr p B a b) (k : IwFr p B b c) : IwFr p B a c := ⟨h.fr.trans k.fr, fun g cs t h1 h2 h3 => k.typ g cs t (h.typ g cs t h1 h2 h3) h2 h3⟩
theorem IwFr.of {p B : Nat} {w w' : World} (h : Below w.heap.size w w') : IwFr p B w w' := ⟨Fr.of h, fun g cs t h1 _ _ => h1.below h⟩
theorem IwFr.refl (p B : Nat) (w : World) : IwFr p B w w := ⟨Fr.refl _ _, fun _ _ _ h _ _ => h⟩
theorem IwFr.set {p B : Nat} {a w : World} (h : IwFr p B a w) (i : Nat) (u : Value) : IwFr p B a (w.setCell ⟨p, i, none⟩ u) := ⟨h.fr.set (g := p) (.inr (.inl rfl)) i u, fun g cs t h1 h2 h3 => (h.typ g cs t h1 h2 h3).other (i := i) h3 u⟩
theorem IwAt.below {w w' : World} {p B : Nat} {s : Ws} (h : IwAt w p B s) (hb : Below w.heap.size w w') : IwAt w' p B s := by
  obtain ⟨h0, a, c, h1, h2, h3⟩ := h
  exact ⟨h0, a, c, h1.below hb, h2.belowR hb, h3⟩
def IwRet (p B : Nat) (s : Ws) (w : World) (e : Ending) (w' : World) : Prop := e = .returned (.tuple #[]) ∧ IwAt w' p B s ∧ IwFr p B w w'
set_option maxHeartbeats 1000000 in
set_option maxRecDepth 100000 in
theorem ihas_as {w : World} {p : Nat} {a : Option Addr} {L c : Nat} {o : Bool} (h : Own w p #[.slice a L c, .bool o] 60) (hL : L ≤ 2097140) (n : Nat) (hn : n ≤ 140737488355328) :
    Calls Try.prog 46 #[ptr p, .int .i64 (n : Int)] w fun e w' => e = .returned (.bool (!(o || decide (2097140 < L + n)))) ∧ w' = w.setCell ⟨p, 1, none⟩ (.bool (o || decide (2097140 < L + n))) := by
  obtain ⟨c0, c1, hf⟩ := own2 h
  have h1 : Own (w.setCell ⟨p, 1, none⟩ (.bool (o || decide (2097140 < L + n)))) p #[.slice a L c, .bool (o || decide (2097140 < L + n))] 60 := by simpa using h.set 1 (.bool (o || decide (2097140 < L + n)))
  cases o with
  | true =>
    obtain ⟨d0, d1, df⟩ := own2 h1
    rw [Bool.true_or] at *
    clear h h1
    go_enter Try.func46, Try.ntmps46
    go_wp2
    go_ret
    exact ⟨rfl, rfl⟩
  | false =>
    rw [Bool.false_or] at *
    by_cases hr : 2097140 < L + n
    · rw [decide_eq_true hr] at *
      obtain ⟨d0, d1, df⟩ := own2 h1
      have hq : 2097140 - (L : Int) < (n : Int) := by omega
      have hLi : (L : Int) ≤ 2097140 := by omega
      clear h h1 hr
      go_enter Try.func46, Try.ntmps46
      go_wp2
      go_ret
      exact ⟨rfl, rfl⟩
    · rw [decide_eq_false hr] at *
      obtain ⟨d0, d1, df⟩ := own2 h1
      have hq : (n : Int) ≤ 2097140 - (L : Int) := by omega
      have hqd : decide (2097140 - (L : Int) < (n : Int)) = false := by simp; omega
      have hLi : (L : Int) ≤ 2097140 := by omega
      clear h h1 hr
      go_enter Try.func46, Try.ntmps46
      go_wp2
      go_ret
      exact ⟨rfl, rfl⟩
set_option maxHeartbeats 1000000 in
set_option maxRecDepth 100000 in
theorem iput_as {w : World} {p B : Nat} {s : Ws} (h : IwAt w p B s) (hB : B ≤ w.heap.size) (ao : Option Addr) (m c : Nat) (ys : List Nat) (hl : Lies w ao ys) (hm : m = ys.length) (hno : ao = none → c = 0) (hmx : m ≤ 140737488355328) (hap : ∀ b off, ao = some ⟨b, off, none⟩ → ¬ b = p) :
    Calls Try.prog 43 #[ptr p, .slice ao m c] w (IwRet p B (s.put ys) w) := by
  obtain ⟨h0, a0, cp, h1, h2, h3⟩ := h
  obtain ⟨xs, o⟩ := s
  simp only at h0 h1 h2 h3
  have h0 : xs.length ≤ 2097140 := h0
  have hne := h2.ne h1 (by decide)
  have hC := ihas_as h1 h0 m hmx
  obtain ⟨O, HO⟩ : ∃ O, Hid ((o || decide (2097140 < xs.length + m)) = O) := ⟨_, rfl⟩
  rw [HO.out] at hC
  have o1 : Own (w.setCell ⟨p, 1, none⟩ (.bool O)) p #[.slice a0 xs.length cp, .bool O] 60 := by simpa using h1.set 1 (.bool O)
  have r1 := h2.set hne 1 (.bool O)
  have hl1 : Lies (w.setCell ⟨p, 1, none⟩ (.bool O)) ao ys := hl.fr (F := fun b => b = p) ((Fr.refl (fun b => b = p) w).set (g := p) (.inr rfl) 1 _) hap
  have f1 : IwFr p B w (w.setCell ⟨p, 1, none⟩ (.bool O)) := (IwFr.refl p B w).set 1 _
  have hs1 : (w.setCell ⟨p, 1, none⟩ (.bool O)).heap.size = w.heap.size := by simp
  have HM : Hid (m = ys.length) := hm
  cases O with
  | true =>
    have HR : Hid (IwRet p B (Ws.put (xs, o) ys) w (.returned (.tuple #[])) (w.setCell ⟨p, 1, none⟩ (.bool true))) := by
      have e : Ws.put (xs, o) ys = (xs, true) := by
        unfold Ws.put
        simp only
        cases o with
        | true => rfl
        | false =>
          have := HO.out
          rw [Bool.false_or, decide_eq_true_eq, hm] at this
          rw [if_neg (by simp), if_pos (show room < xs.length + ys.length from this)]
      rw [Hid, e]
      exact ⟨rfl, ⟨h0, a0, cp, o1, r1, h3⟩, f1⟩
    clear h1 h2 h3 o1 r1 hl1 hl f1 HO hap h0 hs1 hB hm
    go_enter Try.func43, Try.ntmps43
    go_wp2_with fail
    refine hC.mono ?_
    rintro e w1 ⟨rfl, rfl⟩
    go_wp2
    go_end0
    exact HR.out
  | false =>
    have ho : o = false ∧ ¬ 2097140 < xs.length + m := by
      have := HO.out
      cases o <;> simp_all
    obtain ⟨c0, c1, hf⟩ := own2 o1
    have HZ : Hid (∀ ao' n' c' w', n' = (xs ++ ys).length → Rw w' 5 1 (.slice ao' n' c') (xs ++ ys).length (nums (xs ++ ys)) → (w.setCell ⟨p, 1, none⟩ (.bool false)).grownBy w' (Value.slice a0 xs.length cp).ownBlock → ((Value.slice ao' n' c').ownBlock = (Value.slice a0 xs.length cp).ownBlock ∨ (Value.slice ao' n' c').ownBlock = some (w.setCell ⟨p, 1, none⟩ (.bool false)).heap.size) →
        (w'.cell? ⟨p, 0, none⟩ = some (.slice a0 xs.length cp) ∧ w'.cell? ⟨p, 1, none⟩ = some (.bool false) ∧ (∀ j, w'.frozen? ⟨p, j, none⟩ = false)) ∧ IwRet p B (Ws.put (xs, o) ys) w (.returned (.tuple #[])) (w'.setCell ⟨p, 0, none⟩ (.slice ao' n' c'))) := by
      intro ao' n' c' w' g0 g1 g2 g3
      have o2 := o1.grown g2 (fun e => r1.ne o1 (by decide) (by rw [← e]))
      have hne2 := g1.ne o2 (by decide)
      have e : Ws.put (xs, o) ys = (xs ++ ys, false) := by
        unfold Ws.put
        simp only
        rw [ho.1, if_neg (by simp), if_neg (by unfold room; rw [← hm]; exact ho.2)]
      have hlen : (xs ++ ys).length ≤ 2097140 := by rw [List.length_append, ← hm]; omega
      subst g0
      refine ⟨own2 o2, ?_⟩
      rw [e]
      refine ⟨rfl, ⟨hlen, ao', c', by simpa using o2.set 0 (.slice ao' (xs ++ ys).length c'), g1.set hne2 0 _, fun b q => ?_⟩, f1.trans ⟨?_, ?_⟩⟩
      · rcases g3 with g3 | g3
        · exact h3 b (by rw [← g3]; exact q)
        · rw [g3] at q; cases q; rw [hs1]; exact hB
      · exact ((Fr.refl (fun b => b = p ∨ B ≤ b) _).grown g2 (fun k _ e => .inr (h3 k e))).set (g := p) (.inr (.inl rfl)) 0 _
      · exact fun g cs t k1 k2 k3 => (k1.grown g2 (fun e => r1.ne k1 (Ne.symm k2) e.symm)).other (i := 0) k3 _
    have HSM : Hid (xs.length + m ≤ 100000000000) := by unfold Hid; omega
    clear h1 h2 h3 hl f1 HO hap ho h0 hs1 hB hm
    go_enter Try.func43, Try.ntmps43
    go_wp2_with fail
    refine hC.mono ?_
    rintro e w1 ⟨rfl, rfl⟩
    clear hC
    go_wp2_with (refine wpList_appL (by rfl) (.tmp 12) (.tmp 13) (by rfl) _ xs (by rfl) r1 ao m c ys (by rfl) hl1 HM.out hno HSM.out ?_; intro ao' n' c' w' g0 g1 g2 g3; obtain ⟨⟨d0, d1, df⟩, HR⟩ := HZ.out ao' n' c' w' g0 g1 g2 g3; have HRR : Hid (IwRet p B (Ws.put (xs, o) ys) w (.returned (.tuple #[])) (w'.setCell ⟨p, 0, none⟩ (.slice ao' n' c'))) := HR; clear g0 g1 g2 g3 HR c0 c1 hf)
    go_end0
    exact HRR.out
set_option maxHeartbeats 1000000 in
set_option maxRecDepth 100000 in
theorem inumber_as {w : World} {p B : Nat} {s : Ws} (h : IwAt w p B s) (hB : B ≤ w.heap.size) (n : Nat) (hn : n < 9223372036854775808) (hby : ∀ c ∈ Q01.putN n, c < 256) (hlen : (Q01.putN n).length ≤ 10) :
    Calls Try.prog 35 #[ptr p, .int .i64 (n : Int)] w (IwRet p B (s.put (Q01.putN n)) w) := by
  have hP := Q01.put_any n w (by omega)
  have hp : p < w.heap.size := by obtain ⟨_, a, c, h1, -⟩ := h; exact h1.lt
  have HC : Hid (∀ (W : World) (g : Nat), Below w.heap.size w W → W.ownsRow w.heap.size 5 1 (.slice (some ⟨g, 0, none⟩) (Q01.putN n).length (Q01.putN n).length) (Q01.putN n).length (nums (Q01.putN n)) → Calls Try.prog 43 #[ptr p, .slice (some ⟨g, 0, none⟩) (Q01.putN n).length (Q01.putN n).length] W (IwRet p B (s.put (Q01.putN n)) w)) := by
    intro W g hb hr
    have hg : w.heap.size ≤ g := by
      rcases hr.2 with ⟨h', _⟩ | ⟨g', cap', cur, h', hb', _⟩
      · cases h'
      · cases h'; exact hb'
    refine (iput_as (h.below hb) (Nat.le_trans hB hb.size) (some ⟨g, 0, none⟩) _ _ (Q01.putN n) (lies_row rfl hr hby (by omega)) rfl (fun e => by cases e) (by omega) (fun b off e => by cases e; omega)).mono ?_
    rintro e w' ⟨h1, h2, h3⟩
    exact ⟨h1, h2, (IwFr.of hb).trans h3⟩
  generalize Q01.putN n = P at *
  have hcv : IntKind.u64.wrap (n : Int) = (n : Int) := by rw [IntKind.wrap_u64]; omega
  clear hby h hB hp
  obtain ⟨N, hN⟩ : ∃ N : Int, (n : Int) = N := ⟨_, rfl⟩
  have hN0 : 0 ≤ N := by omega
  have hN1 : N < 9223372036854775808 := by omega
  rw [hN] at hP hcv ⊢
  clear hN hn
  generalize P.length = PL at *
  go_enter Try.func35, Try.ntmps35
  go_wp2_with fail
  refine hP.mono ?_
  rintro e w1 ⟨g, rfl, hr, hb⟩
  clear hP
  go_wp2_with fail
  refine Calls.mono (HC.out w1 g hb hr) ?_
  rintro e w2 ⟨rfl, q⟩
  clear hr hb HC
  go_wp2
  go_end0
  exact ⟨rfl, q⟩
end Go.Proofs.Ytghkanagiobggaa
