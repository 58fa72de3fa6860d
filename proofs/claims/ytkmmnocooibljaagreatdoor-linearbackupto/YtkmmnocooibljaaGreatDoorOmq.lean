/-
  Om, what is reached of it.
-/
import Derived.Test.YtkmmnocooibljaaGreatDoorLz
import Derived.Laws.MathBits
import Derived.Laws.Bits64b
import Derived.Laws.BitsAllLaws
namespace Go.Proofs.YtkmmnocooibljaaGreatDoor
open Go.ChangeShapes Go.WideShapes Go.ChangeAt Go.RowKit Go.Deep
set_option linter.unusedVariables false

theorem fixN_byte (n k : Nat) : ∀ c ∈ fixN n k, c < 256 := by
  intro c hc; simp [fixN] at hc; obtain ⟨i, _, rfl⟩ := hc; omega
theorem wid_snoc : ∀ (l : List Nat) (c : Nat), wid (l ++ [c]) = wid l + c * 256 ^ l.length := by
  intro l
  induction l with
  | nil => intro c; simp [wid]
  | cons a r ih => intro c; simp only [List.cons_append, wid, ih, List.length_cons, Nat.pow_succ]; rw [Nat.mul_add, ← Nat.add_assoc]; congr 1; rw [Nat.mul_comm 256, Nat.mul_assoc]
theorem wid_lt : ∀ (l : List Nat), (∀ c ∈ l, c < 256) → wid l < 256 ^ l.length := by
  intro l
  induction l with
  | nil => intro _; simp [wid]
  | cons a r ih =>
    intro h
    have := ih fun c hc => h c (by simp [hc])
    have ha := h a (by simp)
    simp only [wid, List.length_cons, Nat.pow_succ]; omega
theorem fixN_wid : ∀ (l : List Nat), (∀ c ∈ l, c < 256) → fixN (wid l) l.length = l := by
  intro l
  induction l with
  | nil => intro _; rfl
  | cons a r ih =>
    intro h
    have ha := h a (by simp)
    have hr := ih fun c hc => h c (by simp [hc])
    unfold fixN at hr ⊢
    rw [List.length_cons, List.range_succ_eq_map, List.map_cons, List.map_map]
    congr 1
    · simp [wid]; omega
    · refine Eq.trans ?_ hr
      apply List.map_congr_left
      intro i _
      simp only [Function.comp, wid, Nat.succ_eq_add_one, Nat.pow_succ]
      rw [Nat.mul_comm (256 ^ i) 256, ← Nat.div_div_eq_div_mul]
      congr 2
      omega
theorem fixN_mod (n m k : Nat) (h : n % 256 ^ k = m % 256 ^ k) : fixN n k = fixN m k := by
  have e : ∀ n : Nat, fixN n k = fixN (n % 256 ^ k) k := by
    intro n
    unfold fixN
    apply List.map_congr_left
    intro i hi
    have hik : i < k := by simpa using hi
    obtain ⟨d, rfl⟩ : ∃ d, k = i + (d + 1) := ⟨k - i - 1, by omega⟩
    rw [Nat.pow_add, Nat.mod_mul_right_div_self, Nat.pow_succ, Nat.mul_comm, Nat.mod_mul_right_mod]
  rw [e n, e m, h]
theorem val_sz (w : Int) : (nVal w).sz = 8 := by unfold nVal; split; rfl; split <;> rfl
theorem Nm.put_byte (k : Nm) (n : Int) : ∀ c ∈ k.put n, c < 256 := fixN_byte _ _
theorem pow8 (s : Nat) (h : s ≤ 8) : ∃ q : Nat, 18446744073709551616 = 256 ^ s * q := by
  refine ⟨256 ^ (8 - s), ?_⟩
  rw [← Nat.pow_add, show s + (8 - s) = 8 by omega]
/-- Bytes that are read are the number's. -/
theorem put_val (k : Nm) (h : k.Ok) (l : List Nat) (hl : l.length = k.sz) (hb : ∀ c ∈ l, c < 256) : k.put (k.val (wid l)) = l := by
  have hlt := wid_lt l hb
  rw [hl] at hlt
  refine Eq.trans ?_ (fixN_wid l hb)
  rw [hl]
  unfold Nm.put
  apply fixN_mod
  obtain ⟨q, hq⟩ := pow8 k.sz h.sz
  generalize wid l = u at *
  have h0 : 0 ≤ k.val u % 18446744073709551616 := Int.emod_nonneg _ (by decide)
  have hz : (((k.val u % 18446744073709551616).toNat % 256 ^ k.sz : Nat) : Int) = ((u % 256 ^ k.sz : Nat) : Int) := by
    rw [Int.natCast_emod, Int.toNat_of_nonneg h0, Int.natCast_emod]
    have e : ((256 ^ k.sz : Nat) : Int) = 256 ^ k.sz := by simp
    rw [e, Int.emod_emod_of_dvd _ ⟨(q : Int), by have := congrArg (fun x : Nat => (x : Int)) hq; simpa using this⟩]
    unfold Nm.val
    split
    · rw [Int.sub_emod_right]
    · rfl
  exact Int.ofNat_inj.1 hz
theorem rd_err (k : Nm) (xs : List Nat) (s : St) (h : s.2 ≠ 0) : k.rd xs s = (0, s) := by unfold Nm.rd; rw [if_pos (.inl h)]
def dec (xs : List Nat) (p : Int) : In × Nat × Nat :=
  if p < 0 ∨ (xs.length : Int) ≤ p then (zI, 0, 2) else
  match lay (xs.getD p.toNat 0) with
  | none => (zI, 0, 120)
  | some l => if (l.rd (xs.getD p.toNat 0) xs (p.toNat + 1, 0)).2.2 ≠ 0 then (zI, 0, (l.rd (xs.getD p.toNat 0) xs (p.toNat + 1, 0)).2.2)
    else ((l.rd (xs.getD p.toNat 0) xs (p.toNat + 1, 0)).1, (l.rd (xs.getD p.toNat 0) xs (p.toNat + 1, 0)).2.1, 0)
def Passes {α : Type} (R : List Nat → St → α × St) : Prop := ∀ xs s, s.2 ≠ 0 → (R xs s).2 = s
theorem armsR_pass (k : Nm) (xs : List Nat) : ∀ n (s : St), s.2 ≠ 0 → armsR k xs n s = ([], s) := by
  intro n
  cases n with
  | zero => intro s _; rfl
  | succ n =>
    intro s h
    unfold armsR
    simp only [rd_err k xs s h, rd_err nPlace xs s h]
    rw [if_pos h]
theorem rdArms_pass (l : Lay) (a : Int) : Passes (l.rdArms a) := by
  intro xs s h
  unfold Lay.rdArms
  split
  · rw [rd_err nShort xs s h, armsR_pass _ xs _ s h]
  · rfl
theorem rd_forth (k : Nm) (h : k.Ok) (xs : List Nat) (hb : ∀ c ∈ xs, c < 256) (s : St) (n : Int) (s' : St) (e : k.rd xs s = (n, s')) (h0 : s'.2 = 0) (hz : s.1 ≤ xs.length) :
    s.2 = 0 ∧ s'.1 = s.1 + k.sz ∧ s'.1 ≤ xs.length ∧ k.may n = true ∧ k.put n = (xs.drop s.1).take k.sz := by
  unfold Nm.rd at e
  by_cases h1 : s.2 ≠ 0 ∨ k.sz = 0
  · rw [if_pos h1] at e
    cases e
    rcases h1 with h1 | h1
    · exact absurd h0 h1
    · have hzz := h.zero h1
      refine ⟨h0, by omega, by omega, by unfold Nm.may; simp; omega, ?_⟩
      rw [h1]
      exact List.eq_nil_of_length_eq_zero (by rw [k.put_length, h1])
  · rw [if_neg h1] at e
    have hs0 : s.2 = 0 := by by_cases q : s.2 = 0; exact q; exact absurd (.inl q) h1
    by_cases h2 : xs.length < s.1 + k.sz
    · rw [if_pos h2] at e; cases e; cases h0
    · rw [if_neg h2] at e
      by_cases h3 : k.may (k.val (wid ((xs.drop s.1).take k.sz))) = true
      · rw [if_pos h3] at e
        cases e
        exact ⟨hs0, rfl, by show s.1 + k.sz ≤ _; omega, h3, put_val k h _ (by rw [List.length_take, List.length_drop]; omega) (fun c hc => hb c (List.mem_of_mem_drop (List.mem_of_mem_take hc)))⟩
      · rw [if_neg h3] at e; cases e; cases h0
theorem take_take_drop (xs : List Nat) (p a b : Nat) : (xs.drop p).take a ++ (xs.drop (p + a)).take b = (xs.drop p).take (a + b) := by
  rw [List.take_add, List.drop_drop]
theorem arms_forth (k : Nm) (h : k.Ok) (h8 : k.sz = 8) (xs : List Nat) (hb : ∀ c ∈ xs, c < 256) : ∀ n (s : St) (ar : List (Int × Int)) (s' : St), armsR k xs n s = (ar, s') → s'.2 = 0 → s.1 ≤ xs.length →
    s.2 = 0 ∧ ar.length = n ∧ s'.1 = s.1 + n * 12 ∧ s'.1 ≤ xs.length ∧ (∀ y ∈ ar, k.may y.1 = true ∧ nPlace.may y.2 = true) ∧ (ar.map putArm).flatten = (xs.drop s.1).take (n * 12) := by
  intro n
  induction n with
  | zero => intro s ar s' e h0 hz; cases e; exact ⟨h0, rfl, by omega, hz, by simp, by simp⟩
  | succ n ih =>
    intro s ar s' e h0 hz
    unfold armsR at e
    cases e1 : k.rd xs s with
    | mk v s1 =>
    cases e2 : nPlace.rd xs s1 with
    | mk t s2 =>
    cases e3 : armsR k xs n s2 with
    | mk r s3 =>
    simp only [e1, e2, e3] at e
    by_cases q1 : s2.2 = 0
    · rw [if_neg (by omega)] at e
      by_cases q2 : s3.2 = 0
      · rw [if_neg (by omega)] at e
        cases e
        have hs1 : s1.1 ≤ xs.length := by
          by_cases q0 : s1.2 = 0
          · exact (rd_forth k h xs hb s v s1 e1 q0 hz).2.2.1
          · rw [rd_err nPlace xs s1 q0] at e2; cases e2; exact absurd q1 q0
        obtain ⟨b1, b2, b3, b4, b5⟩ := rd_forth nPlace okPlace xs hb s1 t s2 e2 q1 hs1
        obtain ⟨a1, a2, a3, a4, a5⟩ := rd_forth k h xs hb s v s1 e1 b1 hz
        obtain ⟨c1, c2, c3, c4, c5, c6⟩ := ih s2 r _ e3 q2 b3
        have z4 : nPlace.sz = 4 := rfl
        rw [z4] at b2 b5
        rw [h8] at a2 a5
        refine ⟨a1, by simp [c2], by omega, c4, ?_, ?_⟩
        · intro y hy
          rcases List.mem_cons.1 hy with rfl | hy
          · exact ⟨a4, b4⟩
          · exact c5 y hy
        · have pe : k.put v = nI64.put v := by unfold Nm.put; rw [h8]; rfl
          show (nI64.put v ++ nPlace.put t) ++ (r.map putArm).flatten = _
          rw [c6, ← pe, a5, b5, b2, a2, List.append_assoc, take_take_drop, take_take_drop]
          congr 1
          omega
      · rw [if_pos q2] at e; cases e; exact absurd h0 q2
    · rw [if_pos q1] at e; cases e; exact absurd h0 q1
theorem lay_forth (l : Lay) (hl : l.Ok) (op : Nat) (xs : List Nat) (hb : ∀ c ∈ xs, c < 256) (s : St) (x : In) (s' : St) (e : l.rd op xs s = (x, s')) (h0 : s'.2 = 0) (hz : s.1 ≤ xs.length) :
    x.op = op ∧ s.1 ≤ s'.1 ∧ s'.1 ≤ xs.length ∧ l.has x = true ∧ l.a.put x.a ++ (l.putArms x.arms ++ l.b.put x.b) = (xs.drop s.1).take (s'.1 - s.1) ∧ s'.1 = s.1 + (l.size x.arms.length - 1) := by
  unfold Lay.rd at e
  cases e1 : l.a.rd xs s with
  | mk a s1 =>
  cases e2 : l.rdArms a xs s1 with
  | mk ar s2 =>
  cases e3 : l.b.rd xs s2 with
  | mk b s3 =>
  simp only [e1, e2, e3] at e
  cases e
  have q2 : s2.2 = 0 := by
    by_cases q2 : s2.2 = 0
    · exact q2
    · rw [rd_err l.b xs s2 q2] at e3; cases e3; exact absurd h0 q2
  have q1 : s1.2 = 0 := by
    by_cases q1 : s1.2 = 0
    · exact q1
    · have := rdArms_pass l a xs s1 q1; rw [e2] at this; simp only at this; rw [this] at q2; exact absurd q2 q1
  obtain ⟨a1, a2, a3, a4, a5⟩ := rd_forth l.a hl.a xs hb s a s1 e1 q1 hz
  have harms : s2.1 = s1.1 + (l.putArms ar).length ∧ s2.1 ≤ xs.length ∧ l.hasArms a ar = true ∧ l.putArms ar = (xs.drop s1.1).take (l.putArms ar).length := by
    unfold Lay.rdArms at e2
    unfold Lay.putArms Lay.hasArms
    by_cases ha : l.arms = true
    · rw [if_pos ha] at e2 ⊢
      rw [if_pos ha]
      cases e4 : nShort.rd xs s1 with
      | mk n s4 =>
      rw [e4] at e2
      have q4 : s4.2 = 0 := by
        by_cases q4 : s4.2 = 0
        · exact q4
        · rw [armsR_pass _ xs _ s4 q4] at e2; cases e2; exact absurd q2 q4
      obtain ⟨n1, n2, n3, n4, n5⟩ := rd_forth nShort okShort xs hb s1 n s4 e4 q4 a3
      obtain ⟨m1, m2, m3, m4, m5, m6⟩ := arms_forth (nVal a) (okVal a) (val_sz a) xs hb n.toNat s4 ar s2 e2 q2 n3
      have hn := of_decide_eq_true n4
      have hn2 : 0 ≤ n ∧ n ≤ 65535 := hn
      have hnl : (ar.length : Int) = n := by omega
      rw [hnl]
      have z2 : nShort.sz = 2 := rfl
      rw [z2] at n2 n5
      have hlen : (nShort.put n ++ (ar.map putArm).flatten).length = 2 + n.toNat * 12 := by rw [List.length_append, Nm.put_length, putArms_flat, m2]; rfl
      rw [hlen]
      refine ⟨by omega, m4, ?_, ?_⟩
      · rw [Bool.and_eq_true, decide_eq_true_eq, List.all_eq_true]
        exact ⟨by omega, fun y hy => by simpa using m5 y hy⟩
      · rw [n5, m6, n2, take_take_drop]
    · rw [if_neg ha] at e2 ⊢
      rw [if_neg ha]
      cases e2
      exact ⟨by simp, a3, rfl, by simp⟩
  obtain ⟨r1, r2, r3, r4⟩ := harms
  obtain ⟨b1, b2, b3, b4, b5⟩ := rd_forth l.b hl.b xs hb s2 b s' e3 h0 r2
  have hsz : l.size ar.length = 1 + l.a.sz + (l.putArms ar).length + l.b.sz := by
    unfold Lay.size Lay.putArms
    split
    · rw [List.length_append, Nm.put_length, putArms_flat]; show _ = 1 + l.a.sz + (2 + _) + _; omega
    · simp
  refine ⟨rfl, by show s.1 ≤ s'.1; omega, b3, ?_, ?_, ?_⟩
  · unfold Lay.has
    simp only [a4, b4, r3, Bool.and_true]
  · show l.a.put a ++ (l.putArms ar ++ l.b.put b) = _
    rw [a5, r4, b5, r1, a2, take_take_drop, take_take_drop]
    congr 1
    omega
  · show s'.1 = s.1 + (l.size ar.length - 1)
    rw [hsz]; omega
theorem dec_forth (xs : List Nat) (hb : ∀ c ∈ xs, c < 256) (p : Int) (x : In) (q : Nat) (e : dec xs p = (x, q, 0)) :
    0 ≤ p ∧ p < q ∧ q ≤ xs.length ∧ x.ok = true ∧ x.enc = (xs.drop p.toNat).take (q - p.toNat) ∧ (x.size : Int) = q - p ∧ x.op < 256 := by
  unfold dec at e
  by_cases h1 : p < 0 ∨ (xs.length : Int) ≤ p
  · rw [if_pos h1] at e; cases e
  · rw [if_neg h1] at e
    obtain ⟨k, rfl⟩ := Int.eq_ofNat_of_zero_le (show 0 ≤ p by omega)
    rw [Int.toNat_natCast] at e ⊢
    have hk : k < xs.length := by omega
    cases hl : lay (xs.getD k 0) with
    | none => rw [hl] at e; cases e
    | some l =>
      rw [hl] at e
      simp only at e
      cases hr : l.rd (xs.getD k 0) xs (k + 1, 0) with
      | mk x' s' =>
      obtain ⟨q', e'⟩ := s'
      rw [hr] at e
      simp only at e
      by_cases h2 : e' ≠ 0
      · rw [if_pos h2] at e
        exact absurd (Prod.mk.inj (Prod.mk.inj e).2).2 h2
      · rw [if_neg h2] at e
        have h2' : e' = 0 := by omega
        subst h2'
        obtain ⟨e1, e2⟩ := Prod.mk.inj e
        obtain ⟨e2, -⟩ := Prod.mk.inj e2
        have e1 := e1.symm
        have e2 := e2.symm
        subst e1
        subst e2
        obtain ⟨g1, g2, g3, g4, g5, g6⟩ := lay_forth l (lay_ok hl).1 (xs.getD k 0) xs hb (k + 1, 0) _ _ hr rfl (by show k + 1 ≤ _; omega)
        rw [← g1] at hl
        have hok : x.ok = true := by unfold In.ok; rw [hl]; exact g4
        have hsz : x.size = l.size x.arms.length := by unfold In.size; rw [hl]; simp only [g4, if_true]
        have hge : 1 ≤ l.size x.arms.length := by unfold Lay.size; omega
        simp only at g2 g6
        refine ⟨by omega, by omega, g3, hok, ?_, by omega, ?_⟩
        · unfold In.enc
          rw [hl]
          simp only [g4, if_true]
          unfold Lay.put
          simp only at g5
          rw [g5, g1]
          obtain ⟨d, rfl⟩ : ∃ d, q = k + 1 + d := ⟨q - (k + 1), by omega⟩
          rw [show k + 1 + d - (k + 1) = d by omega, show k + 1 + d - k = d + 1 by omega, List.drop_eq_getElem_cons hk, List.take_succ_cons]
          simp [List.getD, hk]
        · rw [g1]
          simp only [List.getD, List.getElem?_eq_getElem hk, Option.getD_some]
          exact hb _ (List.getElem_mem hk)
def allR (xs : List Nat) : Nat → Nat → List In × List Nat × Nat
  | 0, _ => ([], [], 0)
  | f + 1, p => if xs.length ≤ p then ([], [], 0) else
    let d := dec xs p
    if d.2.2 ≠ 0 then ([], [], d.2.2) else
      let r := allR xs f d.2.1
      if r.2.2 ≠ 0 then ([], [], r.2.2) else (d.1 :: r.1, p :: r.2.1, 0)
def allD (xs : List Nat) : List In × List Nat × Nat := allR xs xs.length 0
end Go.Proofs.YtkmmnocooibljaaGreatDoor
