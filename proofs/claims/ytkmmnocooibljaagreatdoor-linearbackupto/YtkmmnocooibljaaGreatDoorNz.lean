/-
  THE BYTES OF LINES.
-/
import Derived.Test.YtkmmnocooibljaaGreatDoorNy
namespace Go.Proofs.YtkmmnocooibljaaGreatDoor
open Go.RowKit Go.Maps
set_option linter.unusedVariables false

theorem addL_sum {st st' : List (Int × Int) × Int} {y : Int × In} (h : addL st y = .inr st') : st'.2 = st.2 + ((if y.2.op = 0 then 0 else y.2.size : Nat) : Int) ∧ (∀ x ∈ st'.1, x ∈ st.1 ∨ x = (y.1, st.2)) ∧ (y.2.op ≠ 0 → y.2.size ≠ 0) := by
  unfold addL at h
  split at h
  · rename_i h0
    split at h
    · cases h
    · rename_i h1
      cases h
      refine ⟨by rw [if_neg h0], fun x hx => .inl hx, fun _ e => h1 (.inl e)⟩
  · rename_i h0
    have h00 : y.2.op = 0 := by omega
    split at h
    · cases h
    · split at h
      · cases h
      · cases h
        refine ⟨by rw [if_pos h00]; simp, fun x hx => ?_, fun q => absurd h00 q⟩
        rcases List.mem_append.1 hx with hx | hx
        · exact .inl hx
        · exact .inr (List.mem_singleton.1 hx)
theorem addsL_sum (ys : List (Int × In)) : ∀ (st st' : List (Int × Int) × Int), 0 ≤ st.2 → (∀ x ∈ st.1, 0 ≤ x.2 ∧ x.2 ≤ st.2) → addsL ys st = .inr st' → st'.2 = st.2 + (sizeL ys : Int) ∧ (∀ x ∈ st'.1, 0 ≤ x.2 ∧ x.2 ≤ st'.2) ∧ ∀ y ∈ ys, y.2.op ≠ 0 → y.2.size ≠ 0 := by
  induction ys with
  | nil => intro st st' h0 h1 h; cases h; exact ⟨by simp [sizeL], h1, fun y hy => by cases hy⟩
  | cons y ys ih =>
    intro st st' h0 h1 h
    simp only [addsL] at h
    cases ha : addL st y with
    | inl e => rw [ha] at h; cases h
    | inr s1 =>
      rw [ha] at h
      obtain ⟨e1, e2, e3⟩ := addL_sum ha
      have hs : st.2 ≤ s1.2 := by rw [e1]; split <;> omega
      have := ih s1 st' (by omega) (fun x hx => by
        rcases e2 x hx with q | q
        · have := h1 x q; omega
        · rw [q]; exact ⟨h0, hs⟩) h
      refine ⟨?_, this.2.1, fun z hz => ?_⟩
      · rw [this.1, e1]; simp only [sizeL]; omega
      · rcases List.mem_cons.1 hz with q | q
        · rw [q]; exact e3
        · exact this.2.2 z q
theorem layoutL_inr {ys : List (Int × In)} {st : List (Int × Int) × Int} (h : layoutL ys = .inr st) : st.2 = (sizeL ys : Int) ∧ (∀ x ∈ st.1, 0 ≤ x.2 ∧ x.2 ≤ st.2) ∧ (∀ y ∈ ys, y.2.op ≠ 0 → y.2.size ≠ 0) ∧ ∀ y ∈ ys, leadsB st.1 y.2 = true := by
  unfold layoutL at h
  cases ha : addsL ys ([], 0) with
  | inl e => rw [ha] at h; cases h
  | inr s1 =>
    rw [ha] at h
    simp only at h
    split at h
    · rename_i hl
      cases h
      have := addsL_sum ys ([], 0) st (Int.le_refl _) (fun x hx => by cases hx) ha
      refine ⟨by rw [this.1]; simp, this.2.1, this.2.2, fun y hy => ?_⟩
      rw [List.all_eq_true] at hl
      exact hl y hy
    · cases h
theorem plF_mem {ps : List (Int × Int)} {t p : Int} (h : plF ps t = some p) : ∃ x ∈ ps, x.2 = p := by
  unfold plF at h
  cases hf : ps.find? (fun x => decide (x.1 = t)) with
  | none => rw [hf] at h; cases h
  | some x => rw [hf] at h; cases h; exact ⟨x, List.mem_of_find?_eq_some hf, rfl⟩
theorem plF_range {ps : List (Int × Int)} {sz : Int} (h : ∀ x ∈ ps, 0 ≤ x.2 ∧ x.2 ≤ sz) (hs : 0 ≤ sz) (t : Int) : 0 ≤ (plF ps t).getD 0 ∧ (plF ps t).getD 0 ≤ sz := by
  cases hf : plF ps t with
  | none => exact ⟨Int.le_refl _, hs⟩
  | some p =>
    obtain ⟨x, hx, rfl⟩ := plF_mem hf
    exact h x hx
theorem setTo_mem {ar : List (Int × Int)} {tq : List Int} {y : Int × Int} (h : y ∈ setTo ar tq) : (∃ x ∈ ar, y.1 = x.1) ∧ y.2 ∈ tq := by
  unfold setTo at h
  induction ar generalizing tq with
  | nil => cases h
  | cons a ar ih =>
    cases tq with
    | nil => cases h
    | cons t tq =>
      rw [List.zipWith_cons_cons] at h
      rcases List.mem_cons.1 h with q | q
      · rw [q]; exact ⟨⟨a, List.mem_cons_self .., rfl⟩, List.mem_cons_self ..⟩
      · obtain ⟨⟨x, hx, e⟩, h2⟩ := ih q
        exact ⟨⟨x, List.mem_cons_of_mem _ hx, e⟩, List.mem_cons_of_mem _ h2⟩
theorem atI_arms (g : Int → Int) (x : In) : (atI g x).op = x.op ∧ (atI g x).arms.length = x.arms.length := by
  unfold atI movX
  rw [if_neg (by rw [List.length_map]; omega)]
  simp only
  split
  · exact ⟨rfl, rfl⟩
  · split
    · rename_i h1 h2
      refine ⟨rfl, ?_⟩
      rw [setTo_length]
      unfold tgs
      rw [if_neg h1, if_pos h2, List.length_map, List.length_append, List.length_map]; omega
    · exact ⟨rfl, rfl⟩
theorem atI_num {g : Int → Int} {x : In} (h : Num x) (hg : ∀ t, N64 (g t)) : Num (atI g x) := by
  have hz : N64 0 := by constructor <;> omega
  unfold atI movX
  rw [if_neg (by rw [List.length_map]; omega)]
  simp only
  have hgd : ∀ i, N64 (((tgs x).map g).getD i 0) := fun i => by
    rw [List.getD_eq_getElem?_getD, List.getElem?_map]
    cases (tgs x)[i]? with
    | none => exact hz
    | some t => exact hg t
  split
  · exact ⟨h.op, hgd 0, h.b, h.arms⟩
  · split
    · refine ⟨h.op, h.a, hgd _, fun y hy => ?_⟩
      obtain ⟨⟨z, hz1, e⟩, h2⟩ := setTo_mem hy
      refine ⟨by rw [e]; exact (h.arms z hz1).1, ?_⟩
      obtain ⟨t, _, e2⟩ := List.mem_map.1 h2
      rw [← e2]; exact hg t
    · exact h
theorem atI_size (g : Int → Int) (x : In) (h : x.size ≠ 0) : (atI g x).size ≤ x.size := by
  obtain ⟨e1, e2⟩ := atI_arms g x
  unfold In.size at *
  rw [e1]
  cases hl : lay x.op with
  | none => exact Nat.le_refl _
  | some l =>
    rw [hl] at h
    simp only at h ⊢
    rw [e2]
    by_cases h1 : l.has x = true
    · rw [if_pos h1]; split <;> omega
    · rw [if_neg h1] at h; exact absurd rfl h
theorem codeB_size (g : Int → Int) (ys : List (Int × In)) (h : ∀ y ∈ ys, y.2.op ≠ 0 → y.2.size ≠ 0) : (codeB (codeI g ys)).length ≤ sizeL ys := by
  induction ys with
  | nil => exact Nat.le_refl _
  | cons y ys ih =>
    have hi := ih (fun z hz => h z (List.mem_cons_of_mem _ hz))
    simp only [codeI, sizeL]
    by_cases h0 : y.2.op = 0
    · rw [if_pos h0, if_pos h0]; omega
    · rw [if_neg h0, if_neg h0]
      have e : codeB (atI g y.2 :: codeI g ys) = (atI g y.2).enc ++ codeB (codeI g ys) := by simp [codeB]
      rw [e, List.length_append, enc_length]
      have := atI_size g y.2 (h y (List.mem_cons_self ..) h0)
      omega
theorem codeI_mem {g : Int → Int} {ys : List (Int × In)} {x : In} (h : x ∈ codeI g ys) : ∃ y ∈ ys, x = atI g y.2 := by
  induction ys with
  | nil => cases h
  | cons y ys ih =>
    simp only [codeI] at h
    split at h
    · obtain ⟨z, hz, e⟩ := ih h
      exact ⟨z, List.mem_cons_of_mem _ hz, e⟩
    · rcases List.mem_cons.1 h with q | q
      · exact ⟨y, List.mem_cons_self .., q⟩
      · obtain ⟨z, hz, e⟩ := ih q
        exact ⟨z, List.mem_cons_of_mem _ hz, e⟩
theorem addsL_er (ys : List (Int × In)) : ∀ (st : List (Int × Int) × Int) (e : Nat), addsL ys st = .inl e → e = 120 ∨ e = 150 := by
  induction ys with
  | nil => intro st e h; cases h
  | cons y ys ih =>
    intro st e h
    simp only [addsL] at h
    cases ha : addL st y with
    | inl e1 => rw [ha] at h; cases h; exact addL_er ha
    | inr s1 => rw [ha] at h; exact ih s1 e h
theorem layoutL_er {ys : List (Int × In)} {e : Nat} (h : layoutL ys = .inl e) : e = 120 ∨ e = 150 := by
  unfold layoutL at h
  cases ha : addsL ys ([], 0) with
  | inl e1 => rw [ha] at h; cases h; exact addsL_er ys _ _ ha
  | inr s1 =>
    rw [ha] at h
    simp only at h
    split at h
    · cases h
    · cases h; exact .inr rfl
def gOf (st : List (Int × Int)) (t : Int) : Int := (plF st t).getD 0
/-- What Code answers. -/
def codeA (ys : List (Int × In)) : List Nat × Nat := match layoutL ys with
  | .inl er => ([], er)
  | .inr st => if 65536 < st.2 then ([], 3) else (codeB (codeI (gOf st.1) ys), 0)
def CodR (w : World) (r : List Nat × Nat) (e : Ending) (w' : World) : Prop :=
  ∃ v, e = .returned (.tuple #[v, .int .i64 (r.2 : Int)]) ∧ Rw w' 5 1 v r.1.length (nums r.1) ∧ (∀ b, v.ownBlock = some b → w.heap.size ≤ b) ∧ Below w.heap.size w w'
theorem CodR.none {w w' : World} (er : Nat) (h : Below w.heap.size w w') : CodR w ([], er) (.returned (.tuple #[.slice none 0 0, .int .i64 (er : Int)])) w' := ⟨_, rfl, World.ownsRow_nil _ _ _ _, by simp [Value.ownBlock], h⟩
theorem num_of {w : World} {x : In} {ao : Option Addr} (h : InLies w x ao) : Num x := ⟨h.op, h.a, h.b, fun y hy => h.arms.nums y hy⟩
set_option maxHeartbeats 4000000 in
set_option maxRecDepth 100000 in
theorem lnCode_as {w : World} {a : Option Addr} {n c : Nat} {xs : List LnP} (hn : n = xs.length) (h : LnsIn w a xs) (hno : ∀ y ∈ xs, y.ao = none → y.cp = 0) (hm : n ≤ 1000000) (hA : ∀ y ∈ xs, y.x.arms.length ≤ 900000) :
    Calls Tryz.prog 13 #[.slice a n c] w (CodR w (codeA (xs.map LnP.l))) := by
  have HLO : Hid (Calls Tryz.prog 40 #[.slice a n c] w (LoR w (layoutL (xs.map LnP.l)))) := lnlayoutOf_as hn h hm (fun y hy => by have := hA y hy; omega)
  have HCD : Hid (∀ W b (st : List (Int × Int)) (sz : Int), Below w.heap.size w W → PlAt W b st → Calls Tryz.prog 41 #[.agg #[.map (some b), .int .i64 sz], .slice a n c] W (PcR W sz (codeI (gOf st) (xs.map LnP.l)) (codeP (xs.map LnP.l) 0))) := fun W b st sz q1 q2 => lncode_as q2 hn (h.below q1) hno (fun y hy => tgs_n64 (h.each y hy).ins) hm hA
  have HNM : Hid (∀ y ∈ xs, Num y.x) := fun y hy => num_of (h.each y hy).ins
  have HAA : Hid (∀ y ∈ xs, y.x.arms.length ≤ 900000) := hA
  have HLN : Hid (xs.length ≤ 1000000) := by unfold Hid; omega
  obtain ⟨R, HR⟩ : ∃ R, Hid (codeA (xs.map LnP.l) = R) := ⟨_, rfl⟩
  rw [HR.out]
  cases hl : layoutL (xs.map LnP.l) with
  | inl er =>
    rw [hl] at HLO
    obtain rfl : ([], er) = R := by rw [← HR.out]; unfold codeA; rw [hl]
    have her := layoutL_er hl
    have hr1 : ((er : Int) == 0) = false := by rw [beq_eq_false_iff_ne]; omega
    have hr2 : ((er : Int) != 0) = true := by simp [bne, hr1]
    clear HR HCD HNM HAA HLN hl h hno hA hm hn
    go_enter Tryz.func13, Tryz.ntmps13
    go_wp2_with fail
    refine Calls.mono HLO.out ?_
    rintro e w2 ⟨rfl, b2⟩
    have HB : Hid (Below w.heap.size w w2) := b2
    clear b2 HLO
    go_wp2
    go_ret2
    exact CodR.none er (HB.out.alloc HB.out.size _)
  | inr st =>
    rw [hl] at HLO
    obtain ⟨hsz, hpr, hok, -⟩ := layoutL_inr hl
    have HRR : Hid (R = if 65536 < st.2 then ([], 3) else (codeB (codeI (gOf st.1) (xs.map LnP.l)), 0)) := by rw [Hid, ← HR.out]; unfold codeA; rw [hl]
    have hsl : st.2 ≤ 1000000000000 := by
      have := sizeL_le (xs.map LnP.l)
      have := HLN.out
      rw [List.length_map] at *
      omega
    have hs0 : 0 ≤ st.2 := by omega
    have HG : Hid (∀ t, N64 (gOf st.1 t)) := fun t => by
      have := plF_range hpr hs0 t
      unfold gOf N64; omega
    obtain ⟨SZ, hSZe⟩ : ∃ SZ, sizeL (xs.map LnP.l) = SZ := ⟨_, rfl⟩
    have HSZ : Hid (st.2 = (SZ : Int)) := by rw [Hid, hsz, hSZe]
    have HOK : Hid (∀ y ∈ xs.map LnP.l, y.2.op ≠ 0 → y.2.size ≠ 0) := hok
    clear HR hl h hno hA hm hn hpr hok hsz
    have HSZ2 : Hid (sizeL (xs.map LnP.l) ≤ SZ) := Nat.le_of_eq hSZe
    clear hSZe
    obtain ⟨PS, ZZ⟩ := st
    simp only at hsl hs0 HRR HSZ HG HLO
    by_cases hbig : 65536 < ZZ
    · obtain rfl : ([], 3) = R := by rw [HRR.out, if_pos hbig]
      clear HRR HSZ HOK HG HCD HNM HAA HLN
      go_enter Tryz.func13, Tryz.ntmps13
      go_wp2_with fail
      refine Calls.mono HLO.out ?_
      rintro e w2 ⟨b, rfl, hb, hpl, b2⟩
      have HB : Hid (Below w.heap.size w w2) := b2
      clear b2 HLO hpl hb
      simp only
      go_wp2
      go_ret2
      exact CodR.none 3 (HB.out.alloc HB.out.size _)
    · obtain rfl : (codeB (codeI (gOf PS) (xs.map LnP.l)), 0) = R := by rw [HRR.out, if_neg hbig]
      have hSZ : SZ ≤ 65536 := by have := HSZ.out; omega
      have hle : ZZ ≤ 65536 := by omega
      have HLEN : Hid ((codeB (codeI (gOf PS) (xs.map LnP.l))).length ≤ 1000000 ∧ (codeI (gOf PS) (xs.map LnP.l)).length ≤ 1000000 ∧ ∀ x ∈ codeI (gOf PS) (xs.map LnP.l), Num x ∧ x.arms.length ≤ 1000000) := by
        refine ⟨?_, ?_, fun x hx => ?_⟩
        · have := codeB_size (gOf PS) (xs.map LnP.l) HOK.out
          have := HSZ2.out
          omega
        · have := codeI_le (gOf PS) (xs.map LnP.l)
          have := HLN.out
          rw [List.length_map] at *
          omega
        · obtain ⟨y, hy, rfl⟩ := codeI_mem hx
          obtain ⟨X, hX, rfl⟩ := List.mem_map.1 hy
          refine ⟨atI_num (HNM.out X hX) HG.out, ?_⟩
          rw [(atI_arms _ _).2]
          have := HAA.out X hX
          show X.x.arms.length ≤ 1000000
          omega
      have HZ : Hid (ZZ = (SZ : Int)) := HSZ.out
      clear HRR HSZ HOK HG HNM HAA HLN HSZ2
      obtain ⟨IL, hIL⟩ : ∃ IL, codeI (gOf PS) (xs.map LnP.l) = IL := ⟨_, rfl⟩
      have HIL : Hid (codeI (gOf PS) (xs.map LnP.l) = IL) := hIL
      rw [hIL] at HLEN ⊢
      clear hIL
      go_enter Tryz.func13, Tryz.ntmps13
      go_wp2_with fail
      refine Calls.mono HLO.out ?_
      rintro e w2 ⟨b, rfl, hb, hpl, b2⟩
      simp only at hpl ⊢
      have HB : Hid (Below w.heap.size w (w2.alloc (.cells #[.map (some b), .int .i64 ZZ] 65))) := b2.alloc b2.size _
      have HPL : Hid (PlAt (w2.alloc (.cells #[.map (some b), .int .i64 ZZ] 65)) b PS) := hpl.below (new_below _ _)
      have oL := Own.new w2 #[.map (some b), .int .i64 ZZ] 65
      clear b2 HLO hpl hb
      go_upto_region 2 with fail
      generalize w2.alloc (.cells #[.map (some b), .int .i64 ZZ] 65) = w3 at *
      have z0 := oL.cell 0
      have z1 := oL.cell 1
      simp only [List.getElem?_toArray, List.getElem?_cons_zero, List.getElem?_cons_succ] at z0 z1
      go_wp2_with fail
      refine Calls.mono (HCD.out w3 b PS ZZ HB.out HPL.out) ?_
      rintro e w4 ⟨vl, vp, ps, rfl, hps, hrow, hints, hin, b4⟩
      rw [HIL.out] at hps
      obtain ⟨ap, cpp, rfl, -⟩ := hints.shape
      have HB4 : Hid (Below w.heap.size w w4) := HB.out.trans (b4.mono HB.out.size)
      have HBY : Hid (Calls Tryz.prog 45 #[.agg #[vl, .slice ap (codeP (xs.map LnP.l) 0).length cpp, .int .i64 ZZ]] w4 (BytR w4 (codeB IL))) := by
        rw [HZ.out, ← hps]
        have hll := HLEN.out
        rw [← hps] at hll
        exact lnbytes_as hrow (fun y hy => hll.2.2 _ (List.mem_map.2 ⟨y, hy, rfl⟩)) (by omega) (by have := hll.2.1; rwa [List.length_map] at this) hll.1 rfl
      clear hps hrow hints hin b4 HB HPL oL z0 z1 HCD HLEN
      go_wp2_with fail
      refine Calls.mono HBY.out ?_
      rintro e w5 ⟨v, rfl, hv, hvn, b5⟩
      have HFIN : Hid (CodR w (codeB IL, 0) (.returned (.tuple #[v, .int .i64 0])) w5) := ⟨v, rfl, hv, fun b e => Nat.le_trans HB4.out.size (hvn b e), HB4.out.trans (b5.mono HB4.out.size)⟩
      clear HBY hv hvn b5 HB4 HZ
      go_wp2
      go_ret2
      exact HFIN.out
end Go.Proofs.YtkmmnocooibljaaGreatDoor
