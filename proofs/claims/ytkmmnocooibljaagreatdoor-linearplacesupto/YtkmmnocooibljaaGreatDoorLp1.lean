/-
  THE LAW'S SUM OF SIZES AHEAD OF A LABEL.
-/
import Derived.Test.YtkmmnocooibljaaGreatDoorNz
namespace Go.Proofs.YtkmmnocooibljaaGreatDoor
open Go.RowKit Go.Maps
set_option linter.unusedVariables false
set_option linter.unusedSimpArgs false

def sizeTo : List (Int × In) → Int → Nat
  | [], _ => 0
  | y :: ys, t => if y.2.op = 0 ∧ y.1 = t then 0 else (if y.2.op = 0 then 0 else y.2.size) + sizeTo ys t
theorem sizeTo_le (ys : List (Int × In)) (t : Int) : sizeTo ys t ≤ sizeL ys := by
  induction ys with
  | nil => exact Nat.le_refl _
  | cons y ys ih =>
    simp only [sizeTo, sizeL]
    split
    · omega
    · omega
theorem plF_app {ps : List (Int × Int)} {t p : Int} (h : plF ps t = some p) (qs : List (Int × Int)) : plF (ps ++ qs) t = some p := by
  unfold plF at *
  rw [List.find?_append]
  cases hf : ps.find? (fun x => decide (x.1 = t)) with
  | none => rw [hf] at h; cases h
  | some x => rw [hf] at h; simpa using h
theorem addL_ps {st st' : List (Int × Int) × Int} {y : Int × In} (h : addL st y = .inr st') : (y.2.op ≠ 0 ∧ st'.1 = st.1) ∨ (y.2.op = 0 ∧ plF st.1 y.1 = none ∧ st'.1 = st.1 ++ [(y.1, st.2)]) := by
  unfold addL at h
  split at h
  · rename_i h0
    split at h
    · cases h
    · cases h; exact .inl ⟨h0, rfl⟩
  · rename_i h0
    split at h
    · cases h
    · split at h
      · cases h
      · rename_i h2
        cases h
        refine .inr ⟨by omega, ?_, rfl⟩
        cases hf : plF st.1 y.1 with
        | none => rfl
        | some p => exact absurd (.inl (by rw [hf]; simp)) h2
theorem addsL_keeps (ys : List (Int × In)) : ∀ (st st' : List (Int × Int) × Int) (t p : Int), addsL ys st = .inr st' → plF st.1 t = some p → plF st'.1 t = some p := by
  induction ys with
  | nil => intro st st' t p h hp; cases h; exact hp
  | cons y ys ih =>
    intro st st' t p h hp
    simp only [addsL] at h
    cases ha : addL st y with
    | inl e => rw [ha] at h; cases h
    | inr s1 =>
      rw [ha] at h
      refine ih s1 st' t p h ?_
      rcases addL_ps ha with ⟨-, e⟩ | ⟨-, -, e⟩
      · rw [e]; exact hp
      · rw [e]; exact plF_app hp _
theorem addsL_at (ys : List (Int × In)) : ∀ (st st' : List (Int × Int) × Int) (t p : Int), addsL ys st = .inr st' → plF st.1 t = none → plF st'.1 t = some p → p = st.2 + (sizeTo ys t : Int) := by
  induction ys with
  | nil => intro st st' t p h h0 hp; cases h; rw [h0] at hp; cases hp
  | cons y ys ih =>
    intro st st' t p h h0 hp
    simp only [addsL] at h
    cases ha : addL st y with
    | inl e => rw [ha] at h; cases h
    | inr s1 =>
      rw [ha] at h
      have hs := (addL_sum ha).1
      rcases addL_ps ha with ⟨e0, e⟩ | ⟨e0, hn, e⟩
      · have := ih s1 st' t p h (by rw [e]; exact h0) hp
        rw [this, hs]
        simp only [sizeTo]
        rw [if_neg e0, if_neg (fun q => e0 q.1)]; omega
      · by_cases ht : y.1 = t
        · have h1 : plF s1.1 t = some st.2 := by rw [e, ← ht, plF_snoc hn, if_pos rfl]
          have := addsL_keeps ys s1 st' t st.2 h h1
          rw [hp] at this
          cases this
          simp only [sizeTo]
          rw [if_pos ⟨e0, ht⟩]; simp
        · have h1 : plF s1.1 t = none := by rw [e, plF_snoc hn, if_neg (fun q => ht q.symm)]; exact h0
          have := ih s1 st' t p h h1 hp
          rw [this, hs]
          simp only [sizeTo]
          rw [if_pos e0, if_neg (fun q => ht q.2)]; simp
theorem layoutL_at {ys : List (Int × In)} {st : List (Int × Int) × Int} (h : layoutL ys = .inr st) {t p : Int} (hp : plF st.1 t = some p) : p = (sizeTo ys t : Int) := by
  unfold layoutL at h
  cases ha : addsL ys ([], 0) with
  | inl e => rw [ha] at h; cases h
  | inr s1 =>
    rw [ha] at h
    simp only at h
    split at h
    · cases h
      have := addsL_at ys ([], 0) st t p ha rfl hp
      simpa using this
    · cases h
theorem sizeTo_drop {xs : List LnP} {k : Nat} (h : k < xs.length) (t : Int) : sizeTo ((xs.drop k).map LnP.l) t = if (xs.getD k zLn).x.op = 0 ∧ (xs.getD k zLn).lab = t then 0 else (if (xs.getD k zLn).x.op = 0 then 0 else (xs.getD k zLn).x.size) + sizeTo ((xs.drop (k + 1)).map LnP.l) t := by
  rw [List.drop_eq_getElem_cons h]
  have : xs.getD k zLn = xs[k] := by simp [List.getD, h]
  rw [this]; rfl
theorem setTo_snd : ∀ (ar : List (Int × Int)) (tq : List Int), ar.length ≤ tq.length → (setTo ar tq).map Prod.snd = tq.take ar.length
  | [], tq, _ => by simp [setTo]
  | y :: r, [], h => by simp at h
  | y :: r, t :: tq, h => by
    have := setTo_snd r tq (by simpa using h)
    unfold setTo at *
    simp only [List.zipWith_cons_cons, List.map_cons, this, List.length_cons, List.take_succ_cons]
theorem may_plc {n : Int} (h : 0 ≤ n ∧ n ≤ 65536) : nPlace.may n = true := by
  unfold Nm.may nPlace
  simp only [Bool.and_eq_true, decide_eq_true_eq]; omega
theorem atI_ok {g : Int → Int} {x : In} (h : x.ok = true) (hg : ∀ t, 0 ≤ g t ∧ g t ≤ 65536) : (atI g x).ok = true ∧ tgs (atI g x) = (tgs x).map g := by
  obtain ⟨op, a, b, ar⟩ := x
  unfold atI movX
  rw [if_neg (by rw [List.length_map]; omega)]
  simp only
  split
  · rename_i h1
    have hl : lay op = some ⟨nPlace, nNone, false⟩ := by rcases h1 with rfl | rfl | rfl <;> rfl
    unfold In.ok at *
    simp only at h ⊢
    rw [hl] at h ⊢
    have ht : tgs ⟨op, a, b, ar⟩ = [a] := by unfold tgs; rw [if_pos h1]
    rw [ht]
    simp only [Lay.has, Bool.and_eq_true] at h ⊢
    refine ⟨⟨may_plc (hg a), h.2.1, h.2.2⟩, ?_⟩
    unfold tgs; rw [if_pos h1]; rfl
  · split
    · rename_i h1 h2
      subst h2
      have hl : lay 49 = some ⟨nWidth, nPlace, true⟩ := rfl
      have ht : tgs ⟨49, a, b, ar⟩ = ar.map Prod.snd ++ [b] := rfl
      rw [ht]
      have hlen : ((ar.map Prod.snd ++ [b]).map g).length = ar.length + 1 := by simp
      have hlast : ((ar.map Prod.snd ++ [b]).map g).getD ar.length 0 = g b := by simp [List.getD]
      unfold In.ok at *
      simp only at h ⊢
      rw [hl] at h ⊢
      simp only [Lay.has, Lay.hasArms, Bool.and_eq_true, if_true, decide_eq_true_eq, List.all_eq_true] at h ⊢
      refine ⟨⟨h.1, by rw [hlast]; exact may_plc (hg b), by rw [setTo_length (by rw [hlen]; omega)]; exact h.2.2.1, fun y hy => ?_⟩, ?_⟩
      · obtain ⟨⟨z, hz, e⟩, h3⟩ := setTo_mem hy
        obtain ⟨t, _, e2⟩ := List.mem_map.1 h3
        refine ⟨by rw [e]; exact (h.2.2.2 z hz).1, by rw [← e2]; exact may_plc (hg t)⟩
      · unfold tgs
        simp only
        rw [if_neg (by omega), if_pos trivial]
        rw [setTo_snd _ _ (by rw [hlen]; omega), hlast]
        simp
    · rename_i h1 h2
      refine ⟨h, ?_⟩
      unfold tgs
      rw [if_neg h1, if_neg h2]; rfl
theorem size_ok {x : In} (h : x.size ≠ 0) : x.ok = true := by
  unfold In.size at h
  unfold In.ok
  cases hl : lay x.op with
  | none => rw [hl] at h; exact absurd rfl h
  | some l =>
    rw [hl] at h
    simp only at h ⊢
    by_cases h1 : l.has x = true
    · exact h1
    · rw [if_neg h1] at h; exact absurd rfl h
set_option maxHeartbeats 4000000 in
set_option maxRecDepth 100000 in
theorem lawsize_as {w : World} {a : Option Addr} {n c : Nat} {xs : List LnP} (hn : n = xs.length) (h : LnsIn w a xs) (hm : n ≤ 1000000) (hA : ∀ y ∈ xs, y.x.arms.length ≤ 1000000) (t : Int) :
    Calls Tryz.prog 38 #[.slice a n c, .int .i64 t] w fun e w' => e = .returned (.int .i64 (sizeTo (xs.map LnP.l) t : Int)) ∧ Below w.heap.size w w' := by
  have HN : Hid (n = xs.length) := hn
  have HROW : Hid (RowAt w a 5 xs.length (lnF xs)) := h.row
  have HX : Hid (∀ x ∈ xs, LnIn w x) := h.each
  have HA : Hid (∀ y ∈ xs, y.x.arms.length ≤ 1000000) := hA
  have hns : n ≤ 140737488355328 := by omega
  obtain ⟨TOT, hT⟩ : ∃ TOT, sizeTo (xs.map LnP.l) t = TOT := ⟨_, rfl⟩
  have hTL : TOT ≤ 1000000000000 := by
    have h1 := sizeTo_le (xs.map LnP.l) t
    have h2 := sizeL_le (xs.map LnP.l)
    rw [List.length_map] at h2
    omega
  have HS : Hid (0 + sizeTo ((xs.drop 0).map LnP.l) t = TOT) := by rw [Hid, Nat.zero_add]; exact hT
  rw [hT]
  clear hT hn h hA hm
  go_enter Tryz.func38, Tryz.ntmps38
  go_wp2_with fail
  go_loopw [5, 6] (fun sum i wr => ∃ k S : Nat, k ≤ n ∧ i = .int .i64 (k : Int) ∧ sum = .int .i64 (S : Int) ∧ S + sizeTo ((xs.drop k).map LnP.l) t = TOT ∧ Below w.heap.size w wr) (fun _ i _ => n - (intOf i).toNat)
  case atStart => exact ⟨0, 0, Nat.zero_le _, rfl, rfl, HS.out, Below.refl _ _⟩
  case round =>
    clear HS
    obtain ⟨k, S, hk, rfl, rfl, hsum, hbel⟩ := hrel
    have HB : Hid (Below w.heap.size w wr) := hbel
    clear hbel
    by_cases hlt : k < n
    · have hkx : k < xs.length := by rw [← HN.out]; exact hlt
      obtain ⟨b1, o1, ha1, g1⟩ := (HROW.out.below HB.out).at hkx
      have hXi := (HX.out _ (getD_in (z := zLn) hkx)).below HB.out
      have hAX := HA.out _ (getD_in (z := zLn) hkx)
      unfold lnF at g1
      rw [sizeTo_drop hkx] at hsum
      generalize xs.getD k zLn = X at *
      have HSZ : Hid (∀ W, Below wr.heap.size wr W → Calls Tryz.prog 37 #[insV X.x (.slice X.ao X.x.arms.length X.cp)] W fun e w' => e = .returned (.int .i64 (X.x.size : Int)) ∧ Below W.heap.size W w') := fun W q => size_as (cp := X.cp) (hXi.ins.below q) _ rfl hAX
      have hop : X.x.op = 0 ↔ (X.x.op : Int) = 0 := by omega
      simp only [hop] at hsum
      subst ha1
      have d0 : wr.cell? ⟨b1, o1 + k * 5, none⟩ = some (.int .i64 X.lab) := g1 0 (by omega)
      have d1 : wr.cell? ⟨b1, o1 + k * 5 + 1, none⟩ = some (.int .u8 (X.x.op : Int)) := g1 1 (by omega)
      have d2 : wr.cell? ⟨b1, o1 + k * 5 + 2, none⟩ = some (.int .i64 X.x.a) := g1 2 (by omega)
      have d3 : wr.cell? ⟨b1, o1 + k * 5 + 3, none⟩ = some (.int .i64 X.x.b) := g1 3 (by omega)
      have d4 : wr.cell? ⟨b1, o1 + k * 5 + 4, none⟩ = some (.slice X.ao X.x.arms.length X.cp) := g1 4 (by omega)
      clear g1 hXi hAX hop
      unfold insV at HSZ
      generalize X.x.size = SX at *
      generalize X.lab = zK at *
      generalize (X.x.op : Int) = zO at *
      generalize X.x.a = zA at *
      generalize X.x.b = zB at *
      generalize X.ao = zs at *
      generalize X.x.arms.length = zn at *
      generalize X.cp = zc at *
      obtain ⟨RST, hRS⟩ : ∃ RST, sizeTo ((xs.drop (k + 1)).map LnP.l) t = RST := ⟨_, rfl⟩
      have HRS : Hid (sizeTo ((xs.drop (k + 1)).map LnP.l) t = RST) := hRS
      rw [hRS] at hsum
      clear hRS
      have hlt2 : (k : Int) < (n : Int) := by omega
      have hk0 : (0 : Int) ≤ (k : Int) := by omega
      have HSUM : Hid (S + (if zO = 0 ∧ zK = t then 0 else (if zO = 0 then 0 else SX) + RST) = TOT) := hsum
      have HKB : Hid (k + 1 ≤ n) := hlt
      clear hsum
      by_cases h0 : zO = 0
      · subst h0
        by_cases h1 : zK = t
        · subst h1
          obtain rfl : S = TOT := by have := HSUM.out; rw [if_pos ⟨rfl, rfl⟩] at this; omega
          clear HSUM HSZ
          go_wp2
          go_ret
          exact ⟨rfl, HB.out⟩
        · have hq : (zK == t) = false := by rw [beq_eq_false_iff_ne]; exact h1
          have HS2 : Hid (S + RST = TOT) := by have := HSUM.out; rw [if_neg (fun q => h1 q.2), if_pos rfl] at this; unfold Hid; omega
          clear HSUM HSZ
          go_wp2
          first
            | (go_roundw
               case rel => exact ⟨k + 1, S, HKB.out, by go_num, rfl, by rw [HRS.out]; exact HS2.out, HB.out⟩
               case measure => simp [intOf]; omega)
      · have hq : (zO == 0) = false := by rw [beq_eq_false_iff_ne]; exact h0
        have hqd : (zO != 0) = true := by simp [bne, hq]
        have HS2 : Hid (S + SX + RST = TOT) := by have := HSUM.out; rw [if_neg (fun q => h0 q.1), if_neg h0] at this; unfold Hid; omega
        have hsb : S + SX ≤ 1000000000000 := by have := HS2.out; omega
        have hsb0 : S ≤ 1000000000000 := by omega
        have hsb1 : SX ≤ 1000000000000 := by omega
        clear HSUM
        go_wp2_with fail
        refine Calls.mono (HSZ.out wr (Below.refl _ _)) ?_
        rintro e w5 ⟨rfl, b5⟩
        have HB5 : Hid (Below w.heap.size w w5) := HB.out.trans (b5.mono HB.out.size)
        clear b5 HB HSZ d0 d1 d2 d3 d4
        go_wp2
        first
          | (go_roundw
             case rel => exact ⟨k + 1, S + SX, HKB.out, by go_num, by go_num, by rw [HRS.out]; exact HS2.out, HB5.out⟩
             case measure => simp [intOf]; omega)
    · obtain rfl : k = n := by omega
      obtain rfl : S = TOT := by rw [HN.out, List.drop_length] at hsum; simpa [sizeTo] using hsum
      go_wp2
      go_ret
      exact ⟨rfl, HB.out⟩
end Go.Proofs.YtkmmnocooibljaaGreatDoor
