/-
  THE LAW'S SUM OF SIZES AHEAD OF A LABEL.
  Om, what is reached of it.
  WHAT STANDS WHERE IN THE BYTES OF LINES.
-/
import Derived.Test.YtkmmnocooibljaaGreatDoorNz
import Derived.Laws.MathBits
import Derived.Laws.Bits64b
import Derived.Laws.BitsAllLaws
import Derived.Test.YtkmmnocooibljaaGreatDoorDe2q
namespace Go.Proofs.YtkmmnocooibljaaGreatDoor
open Go.RowKit Go.Maps
set_option linter.unusedVariables false
set_option linter.unusedSimpArgs false

theorem setTo_snd : ∀ (ar : List (Int × Int)) (tq : List Int), ar.length ≤ tq.length → (setTo ar tq).map Prod.snd = tq.take ar.length
  | [], tq, _ => by simp [setTo]
  | y :: r, [], h => by simp at h
  | y :: r, t :: tq, h => by
    have := setTo_snd r tq (by simpa using h)
    unfold setTo at *
    simp only [List.zipWith_cons_cons, List.map_cons, this, List.length_cons, List.take_succ_cons]
theorem may_plc {n : Int} (h : 0 ≤ n ∧ n ≤ 65536) : nPlace.may n = true := by
  unfold Nm.may nPlace
  simp only [Bool.and_eq_true, decide_eq_true_eq]; omega
theorem atI_ok {g : Int → Int} {x : In} (h : x.ok = true) (hg : ∀ t, 0 ≤ g t ∧ g t ≤ 65536) : (atI g x).ok = true ∧ tgs (atI g x) = (tgs x).map g := by
  obtain ⟨op, a, b, ar⟩ := x
  unfold atI movX
  rw [if_neg (by rw [List.length_map]; omega)]
  simp only
  split
  · rename_i h1
    have hl : lay op = some ⟨nPlace, nNone, false⟩ := by rcases h1 with rfl | rfl | rfl <;> rfl
    unfold In.ok at *
    simp only at h ⊢
    rw [hl] at h ⊢
    have ht : tgs ⟨op, a, b, ar⟩ = [a] := by unfold tgs; rw [if_pos h1]
    rw [ht]
    simp only [Lay.has, Bool.and_eq_true] at h ⊢
    refine ⟨⟨may_plc (hg a), h.2.1, h.2.2⟩, ?_⟩
    unfold tgs; rw [if_pos h1]; rfl
  · split
    · rename_i h1 h2
      subst h2
      have hl : lay 49 = some ⟨nWidth, nPlace, true⟩ := rfl
      have ht : tgs ⟨49, a, b, ar⟩ = ar.map Prod.snd ++ [b] := rfl
      rw [ht]
      have hlen : ((ar.map Prod.snd ++ [b]).map g).length = ar.length + 1 := by simp
      have hlast : ((ar.map Prod.snd ++ [b]).map g).getD ar.length 0 = g b := by simp [List.getD]
      unfold In.ok at *
      simp only at h ⊢
      rw [hl] at h ⊢
      simp only [Lay.has, Lay.hasArms, Bool.and_eq_true, if_true, decide_eq_true_eq, List.all_eq_true] at h ⊢
      refine ⟨⟨h.1, by rw [hlast]; exact may_plc (hg b), by rw [setTo_length (by rw [hlen]; omega)]; exact h.2.2.1, fun y hy => ?_⟩, ?_⟩
      · obtain ⟨⟨z, hz, e⟩, h3⟩ := setTo_mem hy
        obtain ⟨t, _, e2⟩ := List.mem_map.1 h3
        refine ⟨by rw [e]; exact (h.2.2.2 z hz).1, by rw [← e2]; exact may_plc (hg t)⟩
      · unfold tgs
        simp only
        rw [if_neg (by omega), if_pos trivial]
        rw [setTo_snd _ _ (by rw [hlen]; omega), hlast]
        simp
    · rename_i h1 h2
      refine ⟨h, ?_⟩
      unfold tgs
      rw [if_neg h1, if_neg h2]; rfl
theorem size_ok {x : In} (h : x.size ≠ 0) : x.ok = true := by
  unfold In.size at h
  unfold In.ok
  cases hl : lay x.op with
  | none => rw [hl] at h; exact absurd rfl h
  | some l =>
    rw [hl] at h
    simp only at h ⊢
    by_cases h1 : l.has x = true
    · exact h1
    · rw [if_neg h1] at h; exact absurd rfl h
end Go.Proofs.YtkmmnocooibljaaGreatDoor
namespace Go.Proofs.YtkmmnocooibljaaGreatDoor
open Go.ChangeShapes Go.WideShapes Go.ChangeAt Go.RowKit Go.Deep
set_option linter.unusedVariables false

theorem fixN_succ (n k : Nat) : fixN n (k + 1) = fixN n k ++ [n / 256 ^ k % 256] := by simp [fixN, List.range_succ]
theorem wid_fixN (n : Nat) : ∀ k, wid (fixN n k) = n % 256 ^ k := by
  intro k
  induction k with
  | zero => simp [fixN, wid]; omega
  | succ k ih =>
    rw [fixN_succ, wid_snoc, ih, fixN_length, Nat.pow_succ, Nat.mod_mul]
    rw [Nat.mul_comm]
theorem put_wid (k : Nm) (h : k.Ok) (n : Int) : ((wid (k.put n) : Nat) : Int) = n % 256 ^ k.sz := by
  unfold Nm.put
  rw [wid_fixN]
  obtain ⟨q, hq⟩ := pow8 k.sz h.sz
  have h0 : 0 ≤ n % 18446744073709551616 := Int.emod_nonneg _ (by decide)
  rw [Int.natCast_emod, Int.toNat_of_nonneg h0]
  have e : ((256 ^ k.sz : Nat) : Int) = 256 ^ k.sz := by simp
  rw [e]
  exact Int.emod_emod_of_dvd n ⟨(q : Int), by have := congrArg (fun x : Nat => (x : Int)) hq; simpa using this⟩
/-- A number that may be is read again. -/
theorem val_put (k : Nm) (h : k.Ok) (n : Int) (hm : k.may n = true) : k.val (wid (k.put n)) = n := by
  unfold Nm.may at hm
  have hm := of_decide_eq_true hm
  have hw := put_wid k h n
  have hl := h.lo
  have hh := h.hi
  generalize wid (k.put n) = u at *
  unfold Nm.val
  obtain ⟨P, hP⟩ : ∃ P : Nat, 256 ^ k.sz = P := ⟨_, rfl⟩
  have hPi : (256 : Int) ^ k.sz = (P : Int) := by rw [← hP]; simp
  have hpos : 0 < P := by rw [← hP]; exact Nat.pow_pos (by omega)
  rw [hPi] at hw hl hh
  rw [hPi, hP]
  cases hs : k.sg with
  | false =>
    rw [hs] at hl hh
    simp only [Bool.false_eq_true, if_false] at hl hh
    simp only [Bool.false_eq_true, false_and, if_false]
    rw [hw, Int.emod_eq_of_lt (by omega) (by omega)]
  | true =>
    rw [hs] at hl hh
    simp only [if_true] at hl hh
    by_cases hn : 0 ≤ n
    · rw [Int.emod_eq_of_lt hn (by omega)] at hw
      rw [if_neg (by rintro ⟨_, q⟩; omega), hw]
    · have e : n % (P : Int) = n + P := by
        rw [← Int.add_emod_right, Int.emod_eq_of_lt (by omega) (by omega)]
      rw [e] at hw
      rw [if_pos ⟨rfl, by omega⟩]
      omega
theorem enc_byte (x : In) (h : x.op < 256) : ∀ c ∈ x.enc, c < 256 := by
  unfold In.enc
  split
  · simp
  · split
    · rename_i l _ _
      intro c hc
      unfold Lay.put at hc
      rcases List.mem_cons.1 hc with rfl | hc
      · exact h
      · rcases List.mem_append.1 hc with hc | hc
        · exact Nm.put_byte _ _ c hc
        · rcases List.mem_append.1 hc with hc | hc
          · unfold Lay.putArms at hc
            split at hc
            · rcases List.mem_append.1 hc with hc | hc
              · exact Nm.put_byte _ _ c hc
              · obtain ⟨u, hu, hc⟩ := List.mem_flatten.1 hc
                obtain ⟨y, _, rfl⟩ := List.mem_map.1 hu
                rcases List.mem_append.1 hc with hc | hc
                · exact Nm.put_byte _ _ c hc
                · exact Nm.put_byte _ _ c hc
            · cases hc
          · exact Nm.put_byte _ _ c hc
    · simp
theorem Rds.then {α β : Type} {R : List Nat → St → α × St} {S : α → List Nat → St → β × St} {u v : List Nat} {a : α} {b : β} (h : Rds R u a) (k : Rds (S a) v b) (hp : ∀ c, Passes (S c)) :
    Rds (fun xs s => S (R xs s).1 xs (R xs s).2) (u ++ v) b := by
  refine ⟨fun xs p rest e => ?_, fun xs p j hj e => ?_⟩
  · rw [List.append_assoc] at e
    have e1 := h.whole xs p (v ++ rest) e
    simp only [e1]
    have e2 : xs.drop (p + u.length) = v ++ rest := by rw [← List.drop_drop, e, List.drop_left]
    rw [k.whole xs _ rest e2, List.length_append, Nat.add_assoc]
  · by_cases hju : j < u.length
    · rw [List.take_append_of_le_length (by omega)] at e
      have e1 := h.short xs p j hju e
      have hne : (R xs (p, 0)).2.2 ≠ 0 := by rw [e1]; decide
      show (S (R xs (p, 0)).1 xs (R xs (p, 0)).2).2.2 = 10
      rw [hp _ xs _ hne, e1]
    · obtain ⟨d, rfl⟩ : ∃ d, j = u.length + d := ⟨j - u.length, by omega⟩
      rw [List.take_length_add_append] at e
      have e1 := h.whole xs p (v.take d) e
      show (S (R xs (p, 0)).1 xs (R xs (p, 0)).2).2.2 = 10
      rw [e1]
      exact k.short xs _ d (by rw [List.length_append] at hj; omega) (by rw [← List.drop_drop, e, List.drop_left])
theorem rd_pass (k : Nm) : Passes k.rd := fun xs s h => by rw [rd_err k xs s h]
theorem rds_num (k : Nm) (h : k.Ok) (n : Int) (hm : k.may n = true) : Rds k.rd (k.put n) n := by
  by_cases h0 : k.sz = 0
  · have hu : k.put n = [] := List.eq_nil_of_length_eq_zero (by rw [k.put_length, h0])
    have hn : n = 0 := by have := of_decide_eq_true hm; have := h.zero h0; omega
    rw [hu]
    refine ⟨fun xs p rest _ => ?_, fun xs p j hj => by cases hj⟩
    unfold Nm.rd
    rw [if_pos (.inr h0), hn]; rfl
  · refine ⟨fun xs p rest e => ?_, fun xs p j hj e => ?_⟩
    · have hl := congrArg List.length e
      rw [List.length_append, List.length_drop, k.put_length] at hl
      have ht : (xs.drop p).take k.sz = k.put n := by rw [e, List.take_append_of_le_length (by rw [k.put_length]; exact Nat.le_refl _), ← k.put_length n, List.take_length]
      unfold Nm.rd
      rw [if_neg (by simp [h0]), if_neg (by simp; omega)]
      simp only [ht, val_put k h n hm, hm, if_true, k.put_length]
    · have hl := congrArg List.length e
      rw [List.length_take, List.length_drop] at hl
      rw [k.put_length] at hj hl
      unfold Nm.rd
      rw [if_neg (by simp [h0]), if_pos (by simp; omega)]
theorem rds_arms (k : Nm) (h : k.Ok) (h8 : k.sz = 8) : ∀ ar : List (Int × Int), (∀ y ∈ ar, k.may y.1 = true ∧ nPlace.may y.2 = true) → Rds (fun xs s => armsR k xs ar.length s) (ar.map putArm).flatten ar := by
  intro ar
  induction ar with
  | nil => intro _; exact ⟨fun xs p rest _ => rfl, fun xs p j hj => by cases hj⟩
  | cons y r ih =>
    intro hy
    obtain ⟨m1, m2⟩ := hy y (by simp)
    have hr := ih fun z hz => hy z (by simp [hz])
    have pe : k.put y.1 = nI64.put y.1 := by unfold Nm.put; rw [h8]; rfl
    have a1 := rds_num k h y.1 m1
    rw [pe] at a1
    have a2 := rds_num nPlace okPlace y.2 m2
    refine ⟨fun xs p rest e => ?_, fun xs p j hj e => ?_⟩
    · have e0 : xs.drop p = nI64.put y.1 ++ (nPlace.put y.2 ++ ((r.map putArm).flatten ++ rest)) := by rw [e]; simp [putArm, List.append_assoc]
      have e1 := a1.whole xs p _ e0
      have d1 : xs.drop (p + (nI64.put y.1).length) = nPlace.put y.2 ++ ((r.map putArm).flatten ++ rest) := by rw [← List.drop_drop, e0, List.drop_left]
      have e2 := a2.whole xs _ _ d1
      have d2 : xs.drop (p + (nI64.put y.1).length + (nPlace.put y.2).length) = (r.map putArm).flatten ++ rest := by rw [← List.drop_drop, d1, List.drop_left]
      have e3 := hr.whole xs _ _ d2
      simp only [List.length_cons]
      unfold armsR
      simp only [e1, e2, e3]
      simp [putArm, Nat.add_assoc]
    · have e0 : xs.drop p = (nI64.put y.1 ++ (nPlace.put y.2 ++ (r.map putArm).flatten)).take j := by rw [e]; simp [putArm, List.append_assoc]
      have hlen : j < 8 + (4 + ((r.map putArm).flatten).length) := by
        have : (List.map putArm (y :: r)).flatten.length = 8 + (4 + ((r.map putArm).flatten).length) := by simp [putArm, Nm.put_length]; show 8 + (4 + _) = _; rfl
        omega
      have l1 : (nI64.put y.1).length = 8 := Nm.put_length _ _
      have l2 : (nPlace.put y.2).length = 4 := Nm.put_length _ _
      simp only [List.length_cons]
      unfold armsR
      by_cases j1 : j < 8
      · rw [List.take_append_of_le_length (by omega)] at e0
        have e1 := a1.short xs p j (by omega) e0
        have hne : (k.rd xs (p, 0)).2.2 ≠ 0 := by rw [e1]; decide
        simp only [rd_err nPlace xs _ hne]
        rw [if_pos hne, e1]
      · obtain ⟨d, rfl⟩ : ∃ d, j = (nI64.put y.1).length + d := ⟨j - 8, by omega⟩
        rw [List.take_length_add_append] at e0
        have e1 := a1.whole xs p _ e0
        have d1 : xs.drop (p + (nI64.put y.1).length) = (nPlace.put y.2 ++ (r.map putArm).flatten).take d := by rw [← List.drop_drop, e0, List.drop_left]
        simp only [e1]
        by_cases j2 : d < 4
        · rw [List.take_append_of_le_length (by omega)] at d1
          have e2 := a2.short xs _ d (by omega) d1
          rw [if_pos (by rw [e2]; decide), e2]
        · obtain ⟨d', rfl⟩ : ∃ d', d = (nPlace.put y.2).length + d' := ⟨d - 4, by omega⟩
          rw [List.take_length_add_append] at d1
          have e2 := a2.whole xs _ _ d1
          have d2 : xs.drop (p + (nI64.put y.1).length + (nPlace.put y.2).length) = ((r.map putArm).flatten).take d' := by rw [← List.drop_drop, d1, List.drop_left]
          have e3 := hr.short xs _ d' (by omega) d2
          simp only [e2]
          rw [if_neg (by simp), if_pos (by rw [e3]; decide), e3]
theorem rds_rdArms (l : Lay) (a : Int) (ar : List (Int × Int)) (h : l.hasArms a ar = true) : Rds (l.rdArms a) (l.putArms ar) ar := by
  unfold Lay.hasArms at h
  unfold Lay.rdArms Lay.putArms
  split
  · rename_i hl
    rw [if_pos hl] at h
    rw [Bool.and_eq_true, decide_eq_true_eq, List.all_eq_true] at h
    have hy : ∀ y ∈ ar, (nVal a).may y.1 = true ∧ nPlace.may y.2 = true := fun y hy => by simpa using h.2 y hy
    have hs := rds_num nShort okShort (ar.length : Int) (by unfold Nm.may nShort; simp; omega)
    have := hs.then (S := fun n xs s => armsR (nVal a) xs n.toNat s) (b := ar) (by simpa using rds_arms (nVal a) (okVal a) (val_sz a) ar hy) (fun c xs s hs => by show (armsR _ xs _ s).2 = s; rw [armsR_pass _ xs _ s hs])
    simpa using this
  · rename_i hl
    rw [if_neg hl] at h
    rw [List.isEmpty_iff.1 h]
    exact ⟨fun xs p rest _ => rfl, fun xs p j hj => by cases hj⟩
theorem rds_lay (l : Lay) (hl : l.Ok) (x : In) (h : l.has x = true) : Rds (l.rd x.op) (l.a.put x.a ++ (l.putArms x.arms ++ l.b.put x.b)) x := by
  unfold Lay.has at h
  rw [Bool.and_eq_true, Bool.and_eq_true] at h
  obtain ⟨h1, h2, h3⟩ := h
  have r1 := rds_num l.a hl.a x.a h1
  have r2 := rds_rdArms l x.a x.arms h3
  have r3 := rds_num l.b hl.b x.b h2
  have r23 := fun (a : Int) => (fun c : List (Int × Int) => c)
  have t := r1.then (S := fun a xs s => ((⟨x.op, a, (l.b.rd xs (l.rdArms a xs s).2).1, (l.rdArms a xs s).1⟩ : In), (l.b.rd xs (l.rdArms a xs s).2).2)) (v := l.putArms x.arms ++ l.b.put x.b) (b := x)
    (r2.then (S := fun ar xs s => ((⟨x.op, x.a, (l.b.rd xs s).1, ar⟩ : In), (l.b.rd xs s).2)) (b := x) (r3.map fun b => (⟨x.op, x.a, b, x.arms⟩ : In)) (fun c xs s hs => rd_pass l.b xs s hs))
    (fun c xs s hs => by
      show (l.b.rd xs (l.rdArms c xs s).2).2 = s
      rw [rdArms_pass l c xs s hs]; exact rd_pass l.b xs s hs)
  exact t
theorem drop_at {xs u : List Nat} {p c : Nat} (e : xs.drop p = c :: u) : xs.getD p 0 = c ∧ xs.drop (p + 1) = u ∧ p < xs.length := by
  have hp : p < xs.length := by
    have := congrArg List.length e
    rw [List.length_drop, List.length_cons] at this; omega
  rw [List.drop_eq_getElem_cons hp] at e
  injection e with e1 e2
  exact ⟨by simp [List.getD, hp, e1], e2, hp⟩
/-- THERE AND BACK. -/
theorem dec_enc (x : In) (h : x.ok = true) (xs rest : List Nat) (p : Nat) (e : xs.drop p = x.enc ++ rest) : dec xs p = (x, p + x.size, 0) := by
  unfold In.ok at h
  have hs := enc_length x
  unfold In.enc at e hs
  cases hl : lay x.op with
  | none => rw [hl] at h; cases h
  | some l =>
    rw [hl] at h e hs
    simp only at h e hs
    rw [if_pos h] at e hs
    have e' : xs.drop p = x.op :: ((l.a.put x.a ++ (l.putArms x.arms ++ l.b.put x.b)) ++ rest) := by rw [e]; rfl
    have ⟨c1, c2, c3⟩ := drop_at e'
    have hr := (rds_lay l (lay_ok hl).1 x h).whole xs (p + 1) rest c2
    unfold dec
    rw [if_neg (by omega), Int.toNat_natCast, c1, hl]
    simp only [hr]
    rw [if_neg (by simp)]
    congr 1
    congr 1
    have : (l.put x).length = 1 + (l.a.put x.a ++ (l.putArms x.arms ++ l.b.put x.b)).length := by unfold Lay.put; rw [List.length_cons]; omega
    omega
end Go.Proofs.YtkmmnocooibljaaGreatDoor
namespace Go.Proofs.YtkmmnocooibljaaGreatDoor
open Go.RowKit Go.Maps
set_option linter.unusedVariables false

theorem ok_size {x : In} (h : x.ok = true) : ∃ l, lay x.op = some l ∧ x.size = l.size x.arms.length := by
  unfold In.ok at h
  unfold In.size
  cases hl : lay x.op with
  | none => rw [hl] at h; cases h
  | some l =>
    rw [hl] at h
    simp only at h ⊢
    rw [if_pos h]
    exact ⟨l, rfl, rfl⟩
theorem atI_size_eq {g : Int → Int} {x : In} (h : x.size ≠ 0) (hg : ∀ t, 0 ≤ g t ∧ g t ≤ 65536) : (atI g x).size = x.size := by
  have h1 := size_ok h
  obtain ⟨h2, -⟩ := atI_ok h1 hg
  obtain ⟨l1, e1, e2⟩ := ok_size h1
  obtain ⟨l2, e3, e4⟩ := ok_size h2
  obtain ⟨o1, o2⟩ := atI_arms g x
  rw [o1, e1] at e3
  cases e3
  rw [e4, e2, o2]
theorem codeB_len {g : Int → Int} {ys : List (Int × In)} (h : ∀ y ∈ ys, y.2.op ≠ 0 → y.2.size ≠ 0) (hg : ∀ t, 0 ≤ g t ∧ g t ≤ 65536) : (codeB (codeI g ys)).length = sizeL ys := by
  induction ys with
  | nil => rfl
  | cons y ys ih =>
    have hi := ih (fun z hz => h z (List.mem_cons_of_mem _ hz))
    simp only [codeI, sizeL]
    by_cases h0 : y.2.op = 0
    · rw [if_pos h0, if_pos h0]; omega
    · rw [if_neg h0, if_neg h0]
      have e : codeB (atI g y.2 :: codeI g ys) = (atI g y.2).enc ++ codeB (codeI g ys) := by simp [codeB]
      rw [e, List.length_append, enc_length, atI_size_eq (h y (List.mem_cons_self ..) h0) hg, hi]
theorem gOf_range {ys : List (Int × In)} {st : List (Int × Int) × Int} (h : layoutL ys = .inr st) (hb : ¬ 65536 < st.2) (t : Int) : 0 ≤ gOf st.1 t ∧ gOf st.1 t ≤ 65536 := by
  obtain ⟨h1, h2, -⟩ := layoutL_inr h
  have := plF_range h2 (by omega) t
  unfold gOf; omega
theorem code_len {ys : List (Int × In)} {st : List (Int × Int) × Int} (h : layoutL ys = .inr st) (hb : ¬ 65536 < st.2) : (codeB (codeI (gOf st.1) ys)).length = sizeL ys :=
  codeB_len (layoutL_inr h).2.2.1 (gOf_range h hb)
end Go.Proofs.YtkmmnocooibljaaGreatDoor
