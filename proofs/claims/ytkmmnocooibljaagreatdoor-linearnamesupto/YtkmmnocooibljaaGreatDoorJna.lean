/-
  NORMAL LINES.
  LINES WITH OTHER LABELS' NUMBERS: the same code, the same normal form.
  Pick; bytes as a string.
  LINEARNAMES: what its walk wants.
  LINEARNAMES: THE LAW IS WALKED.
-/
import Derived.Test.YtkmmnocooibljaaGreatDoorNo
import Derived.Test.YtkmmnocooibljaaGreatDoorNz
import Derived.Test.YtkmmnocooibljaaGreatDoorLp2
import Derived.Test.YtkmmnocooibljaaGreatDoorLbq
import Derived.WalkKit
import Derived.WalkLawsBesides
import Derived.WalkSpells
import Derived.Handy
import Derived.Outline
import Derived.Below
import Derived.Lib.SmallJoins
import Derived.Lib.SliceRun
import Derived.Maps.AppendAt
import Derived.Maps.Own
import Derived.Maps.Views
import Derived.Laws.BytesArg
import Derived.Laws.AppendOwnNone
import Derived.Laws.MathBits
import Derived.Laws.Bits64b
import Derived.Laws.BitsAllLaws
import Derived.Laws.CopyRow
import Derived.Deep.MidRow
import Derived.Deep.Cut
import Derived.Deep.CutBlock
import Derived.Deep.Onto
import Derived.Deep.RegionHeld3
import Derived.Deep.LoopGhost
import Derived.Deep.QuietTactic
import Derived.BigQuiet
import Derived.Test.YtkmmnocooibljaaGreatDoorChecked
import Derived.Deep.Slices
import Derived.ProofKit
import Derived.OpenShut
import Derived.Carry
import Derived.SizedLaws
import Derived.Test.YtkmmnocooibljaaGreatDoorLwk
import Derived.Test.YtkmmnocooibljaaGreatDoorNc
namespace Go.Proofs.YtkmmnocooibljaaGreatDoor
open Go.RowKit Go.Maps
set_option linter.unusedVariables false
set_option linter.unusedSimpArgs false

theorem tgs_len3 (x : In) : (tgs x).length ≤ x.arms.length + 1 := by
  unfold tgs
  split
  · simp
  · split
    · simp
    · simp
theorem allT_bound (il : List In) (c : Nat) (h : ∀ x ∈ il, x.arms.length + 1 ≤ c) : (allT il).length ≤ il.length * c := by
  induction il with
  | nil => simp [allT]
  | cons x r ih =>
    have h1 := h x (by simp)
    have h2 := ih (fun y hy => h y (by simp [hy]))
    have h3 := tgs_len3 x
    have e : allT (x :: r) = tgs x ++ allT r := by simp [allT]
    rw [e, List.length_append, List.length_cons, Nat.succ_mul]
    omega
def normC (PS : List (Int × Int)) (ZZ : Int) (ys : List (Int × In)) : List (Int × In) := (linesM (headsL (codeI (gOf PS) ys)) ((codeI (gOf PS) ys).zip (codeP ys 0)) ZZ).1
/-- What Normal answers. -/
def normL (ys : List (Int × In)) : List (Int × In) × Nat := match layoutL ys with
  | .inl er => ([], er)
  | .inr st => (normC st.1 st.2 ys, 0)
def NrmR (w : World) (r : List (Int × In) × Nat) (e : Ending) (w' : World) : Prop :=
  ∃ vo ps, e = .returned (.tuple #[vo, .int .i64 (r.2 : Int)]) ∧ ps.map qL = r.1 ∧ LnRow w' w.heap.size vo ps ∧ Below w.heap.size w w'
set_option maxHeartbeats 4000000 in
set_option maxRecDepth 100000 in
theorem lnNormal_as {w : World} {a : Option Addr} {n c : Nat} {xs : List LnP} (hn : n = xs.length) (h : LnsIn w a xs) (hno : ∀ y ∈ xs, y.ao = none → y.cp = 0) (hm : n ≤ 150000) (hA : ∀ y ∈ xs, y.x.arms.length ≤ 350000) :
    Calls Tryz.prog 11 #[.slice a n c] w (NrmR w (normL (xs.map LnP.l))) := by
  have HLO : Hid (Calls Tryz.prog 40 #[.slice a n c] w (LoR w (layoutL (xs.map LnP.l)))) := lnlayoutOf_as hn h (by omega) (fun y hy => by have := hA y hy; omega)
  have HCD : Hid (∀ W b (st : List (Int × Int)) (sz : Int), Below w.heap.size w W → PlAt W b st → Calls Tryz.prog 41 #[.agg #[.map (some b), .int .i64 sz], .slice a n c] W (PcR W sz (codeI (gOf st) (xs.map LnP.l)) (codeP (xs.map LnP.l) 0))) := fun W b st sz q1 q2 => lncode_as q2 hn (h.below q1) hno (fun y hy => tgs_n64 (h.each y hy).ins) (by omega) (fun y hy => by have := hA y hy; omega)
  have HNM : Hid (∀ y ∈ xs, Num y.x) := fun y hy => num_of (h.each y hy).ins
  have HAA : Hid (∀ y ∈ xs, y.x.arms.length ≤ 350000) := hA
  have HLN : Hid (xs.length ≤ 150000) := by unfold Hid; omega
  cases hl : layoutL (xs.map LnP.l) with
  | inl er =>
    have hR : normL (xs.map LnP.l) = ([], er) := by unfold normL; rw [hl]
    rw [hR]
    rw [hl] at HLO
    have her := layoutL_er hl
    have hr1 : ((er : Int) == 0) = false := by rw [beq_eq_false_iff_ne]; omega
    have hr2 : ((er : Int) != 0) = true := by simp [bne, hr1]
    clear hR HCD HNM HAA HLN hl h hno hA hm hn
    go_enter Tryz.func11, Tryz.ntmps11
    go_wp2_with fail
    refine Calls.mono HLO.out ?_
    rintro e w2 ⟨rfl, b2⟩
    have HB : Hid (Below w.heap.size w w2) := b2
    clear b2 HLO
    go_wp2
    go_ret2
    exact ⟨_, [], rfl, rfl, LnRow.nil _ _, HB.out.alloc HB.out.size _⟩
  | inr st =>
    have hR : normL (xs.map LnP.l) = (normC st.1 st.2 (xs.map LnP.l), 0) := by unfold normL; rw [hl]
    rw [hR]
    rw [hl] at HLO
    obtain ⟨hsz, hpr, hok, -⟩ := layoutL_inr hl
    have hsl : st.2 ≤ 1000000000000 := by
      have := sizeL_le (xs.map LnP.l)
      have := HLN.out
      rw [List.length_map] at *
      omega
    have hs0 : 0 ≤ st.2 := by omega
    have HG : Hid (∀ t, N64 (gOf st.1 t)) := fun t => by
      have := plF_range hpr hs0 t
      unfold gOf N64; omega
    clear hR hl h hno hA hm hn hpr hok hsz
    obtain ⟨PS, ZZ⟩ := st
    simp only at hsl hs0 HG HLO ⊢
    have HIL : Hid ((codeI (gOf PS) (xs.map LnP.l)).length ≤ 1000000 ∧ (∀ x ∈ codeI (gOf PS) (xs.map LnP.l), Num x ∧ x.arms.length ≤ 900000) ∧ (allT (codeI (gOf PS) (xs.map LnP.l))).length ≤ 100000000000) := by
      have h1 : (codeI (gOf PS) (xs.map LnP.l)).length ≤ 150000 := by
        have := codeI_le (gOf PS) (xs.map LnP.l)
        have := HLN.out
        rw [List.length_map] at *
        omega
      have h2 : ∀ x ∈ codeI (gOf PS) (xs.map LnP.l), Num x ∧ x.arms.length ≤ 350000 := fun x hx => by
        obtain ⟨y, hy, rfl⟩ := codeI_mem hx
        obtain ⟨X, hX, rfl⟩ := List.mem_map.1 hy
        refine ⟨atI_num (HNM.out X hX) HG.out, ?_⟩
        rw [(atI_arms _ _).2]
        exact HAA.out X hX
      refine ⟨by omega, fun x hx => ⟨(h2 x hx).1, by have := (h2 x hx).2; omega⟩, ?_⟩
      have := allT_bound _ 350001 (fun x hx => by have := (h2 x hx).2; omega)
      have : (codeI (gOf PS) (xs.map LnP.l)).length * 350001 ≤ 150000 * 350001 := Nat.mul_le_mul_right _ h1
      omega
    have HCP : Hid ((codeP (xs.map LnP.l) 0).length = (codeI (gOf PS) (xs.map LnP.l)).length) := codeIP_length _ _ _
    unfold normC
    have HCD2 : Hid (∀ W b (sz : Int), Below w.heap.size w W → PlAt W b PS → Calls Tryz.prog 41 #[.agg #[.map (some b), .int .i64 sz], .slice a n c] W (PcR W sz (codeI (gOf PS) (xs.map LnP.l)) (codeP (xs.map LnP.l) 0))) := fun W b sz => HCD.out W b PS sz
    generalize codeI (gOf PS) (xs.map LnP.l) = IL at *
    clear HCD HG HNM HAA HLN
    generalize codeP (xs.map LnP.l) 0 = CP at *
    go_enter Tryz.func11, Tryz.ntmps11
    go_wp2_with fail
    refine Calls.mono HLO.out ?_
    rintro e w2 ⟨b, rfl, hb, hpl, b2⟩
    simp only at hpl ⊢
    have HB : Hid (Below w.heap.size w (w2.alloc (.cells #[.map (some b), .int .i64 ZZ] 65))) := b2.alloc b2.size _
    have HPL : Hid (PlAt (w2.alloc (.cells #[.map (some b), .int .i64 ZZ] 65)) b PS) := hpl.below (new_below _ _)
    have oL := Own.new w2 #[.map (some b), .int .i64 ZZ] 65
    clear b2 HLO hpl hb
    go_upto_region 2 with fail
    generalize w2.alloc (.cells #[.map (some b), .int .i64 ZZ] 65) = w3 at *
    have z0 := oL.cell 0
    have z1 := oL.cell 1
    simp only [List.getElem?_toArray, List.getElem?_cons_zero, List.getElem?_cons_succ] at z0 z1
    go_wp2_with fail
    refine Calls.mono (HCD2.out w3 b ZZ HB.out HPL.out) ?_
    rintro e w4 ⟨vl, vp, ps, rfl, hps, hrow, hints, hin, b4⟩
    have HB4 : Hid (Below w.heap.size w w4) := HB.out.trans (b4.mono HB.out.size)
    have HLI : Hid (Calls Tryz.prog 42 #[.agg #[vl, vp, .int .i64 ZZ]] w4 (LinR w4 (linesM (headsL IL) (IL.zip CP) ZZ) (headsL IL).length)) := by
      have h1 := HIL.out
      have h2 := HCP.out
      rw [← hps] at h1 h2 ⊢
      rw [List.length_map] at h1 h2
      exact lnlines_as hrow hints (fun y hy => h1.2.1 _ (List.mem_map.2 ⟨y, hy, rfl⟩)) h2 h1.1 h1.2.2
    obtain ⟨al, cl, rfl, -⟩ := hrow.row.shape
    obtain ⟨ap, cpp, rfl, -⟩ := hints.shape
    clear hps hrow hints hin b4 HB HPL oL z0 z1 HCD2 HIL HCP
    go_wp2_with fail
    refine Calls.mono HLI.out ?_
    rintro e w5 ⟨vo, qs, rfl, hqs, hr5, b5⟩
    have HFIN : Hid (NrmR w ((linesM (headsL IL) (IL.zip CP) ZZ).1, 0) (.returned (.tuple #[vo, .int .i64 0])) w5) := ⟨vo, qs, rfl, hqs, ⟨hr5.row, fun b e => Nat.le_trans HB4.out.size (hr5.new b e), fun y hy => ⟨(hr5.arms y hy).1, fun b e => Nat.le_trans HB4.out.size ((hr5.arms y hy).2 b e)⟩⟩, HB4.out.trans (b5.mono HB4.out.size)⟩
    clear HLI hqs hr5 b5 HB4
    go_wp2
    go_ret2
    exact HFIN.out
end Go.Proofs.YtkmmnocooibljaaGreatDoor
namespace Go.Proofs.YtkmmnocooibljaaGreatDoor
open Go.RowKit Go.Maps
set_option linter.unusedVariables false
set_option linter.unusedSimpArgs false

def renI (c : Int) (t : Int) : Int := t * 7 + c
def renY (c : Int) (y : Int × In) : Int × In := if y.2.op = 0 then (renI c y.1, zI) else (0, atI (renI c) y.2)
def renP (c : Int) (st : List (Int × Int) × Int) : List (Int × Int) × Int := (st.1.map fun p => (renI c p.1, p.2), st.2)
theorem tgs_atI (g : Int → Int) (x : In) : tgs (atI g x) = (tgs x).map g := by
  obtain ⟨op, a, b, ar⟩ := x
  unfold atI movX
  rw [if_neg (by rw [List.length_map]; omega)]
  simp only
  split
  · rename_i h1
    have ht : tgs ⟨op, a, b, ar⟩ = [a] := by unfold tgs; rw [if_pos h1]
    rw [ht]
    unfold tgs; rw [if_pos h1]; rfl
  · split
    · rename_i h1 h2
      subst h2
      have ht : tgs ⟨49, a, b, ar⟩ = ar.map Prod.snd ++ [b] := rfl
      rw [ht]
      have hlen : ((ar.map Prod.snd ++ [b]).map g).length = ar.length + 1 := by simp
      have hlast : ((ar.map Prod.snd ++ [b]).map g).getD ar.length 0 = g b := by simp [List.getD]
      unfold tgs
      simp only
      rw [if_neg (by omega), if_pos trivial]
      rw [setTo_snd _ _ (by rw [hlen]; omega), hlast]
      simp
    · rename_i h1 h2
      unfold tgs
      rw [if_neg h1, if_neg h2]; rfl
theorem setTo_g (g : Int → Int) (ar : List (Int × Int)) (b : Int) : setTo ar ((ar.map Prod.snd ++ [b]).map g) = ar.map fun y => (y.1, g y.2) := by
  unfold setTo
  induction ar with
  | nil => rfl
  | cons y r ih =>
    simp only [List.map_cons, List.cons_append, List.zipWith_cons_cons]
    rw [ih]
theorem atI_jump (g : Int → Int) (x : In) (h : x.op = 46 ∨ x.op = 47 ∨ x.op = 48) : atI g x = ⟨x.op, g x.a, x.b, x.arms⟩ := by
  have ht : tgs x = [x.a] := by unfold tgs; rw [if_pos h]
  unfold atI movX
  rw [ht, if_neg (by simp)]
  simp only
  rw [if_pos h]
  rfl
theorem atI_sw (g : Int → Int) (x : In) (h : x.op = 49) : atI g x = ⟨x.op, x.a, g x.b, x.arms.map fun y => (y.1, g y.2)⟩ := by
  have hn : ¬ (x.op = 46 ∨ x.op = 47 ∨ x.op = 48) := by omega
  have ht : tgs x = x.arms.map Prod.snd ++ [x.b] := by unfold tgs; rw [if_neg hn, if_pos h]
  unfold atI movX
  rw [ht, if_neg (by simp)]
  simp only
  rw [if_neg hn, if_pos h, setTo_g]
  congr 1
  simp [List.getD]
theorem atI_else (g : Int → Int) (x : In) (h1 : ¬ (x.op = 46 ∨ x.op = 47 ∨ x.op = 48)) (h2 : x.op ≠ 49) : atI g x = x := by
  unfold atI movX
  rw [if_neg (by rw [List.length_map]; omega)]
  simp only
  rw [if_neg h1, if_neg h2]
theorem atI_atI (g h : Int → Int) (x : In) : atI h (atI g x) = atI (fun t => h (g t)) x := by
  have o := (atI_arms g x).1
  by_cases h1 : x.op = 46 ∨ x.op = 47 ∨ x.op = 48
  · rw [atI_jump h _ (by rw [o]; exact h1), atI_jump (fun t => h (g t)) x h1, atI_jump g x h1]
  · by_cases h2 : x.op = 49
    · rw [atI_sw h _ (by rw [o]; exact h2), atI_sw (fun t => h (g t)) x h2, atI_sw g x h2]
      simp only [List.map_map]
      rfl
    · rw [atI_else h _ (by rw [o]; exact h1) (by rw [o]; exact h2), atI_else g x h1 h2, atI_else _ x h1 h2]
theorem may_lab {t : Int} (h : 0 ≤ t ∧ t ≤ 4294967295) : nPlace.may t = true := by
  unfold Nm.may nPlace
  simp only [Bool.and_eq_true, decide_eq_true_eq]; omega
theorem atI_ok2 {g : Int → Int} {x : In} (h : x.ok = true) (hg : ∀ t ∈ tgs x, 0 ≤ g t ∧ g t ≤ 4294967295) : (atI g x).ok = true := by
  obtain ⟨op, a, b, ar⟩ := x
  unfold atI movX
  rw [if_neg (by rw [List.length_map]; omega)]
  simp only
  split
  · rename_i h1
    have hl : lay op = some ⟨nPlace, nNone, false⟩ := by rcases h1 with rfl | rfl | rfl <;> rfl
    unfold In.ok at *
    simp only at h ⊢
    rw [hl] at h ⊢
    have ht : tgs ⟨op, a, b, ar⟩ = [a] := by unfold tgs; rw [if_pos h1]
    rw [ht] at hg ⊢
    simp only [Lay.has, Bool.and_eq_true] at h ⊢
    exact ⟨may_lab (hg a (by simp)), h.2.1, h.2.2⟩
  · split
    · rename_i h1 h2
      subst h2
      have hl : lay 49 = some ⟨nWidth, nPlace, true⟩ := rfl
      have ht : tgs ⟨49, a, b, ar⟩ = ar.map Prod.snd ++ [b] := rfl
      rw [ht] at hg ⊢
      have hlen : ((ar.map Prod.snd ++ [b]).map g).length = ar.length + 1 := by simp
      have hlast : ((ar.map Prod.snd ++ [b]).map g).getD ar.length 0 = g b := by simp [List.getD]
      unfold In.ok at *
      simp only at h ⊢
      rw [hl] at h ⊢
      simp only [Lay.has, Lay.hasArms, Bool.and_eq_true, if_true, decide_eq_true_eq, List.all_eq_true] at h ⊢
      refine ⟨h.1, by rw [hlast]; exact may_lab (hg b (by simp)), by rw [setTo_length (by rw [hlen]; omega)]; exact h.2.2.1, fun y hy => ?_⟩
      obtain ⟨⟨z, hz, e⟩, h3⟩ := setTo_mem hy
      obtain ⟨t, ht, e2⟩ := List.mem_map.1 h3
      exact ⟨by rw [e]; exact (h.2.2.2 z hz).1, by rw [← e2]; exact may_lab (hg t ht)⟩
    · exact h
theorem atI_size2 {g : Int → Int} {x : In} (h : x.size ≠ 0) (hg : ∀ t ∈ tgs x, 0 ≤ g t ∧ g t ≤ 4294967295) : (atI g x).size = x.size := by
  have h1 := size_ok h
  have h2 := atI_ok2 h1 hg
  obtain ⟨l1, e1, e2⟩ := ok_size h1
  obtain ⟨l2, e3, e4⟩ := ok_size h2
  obtain ⟨o1, o2⟩ := atI_arms g x
  rw [o1, e1] at e3
  cases e3
  rw [e4, e2, o2]
theorem plF_ren (c : Int) (ps : List (Int × Int)) (t : Int) : plF (ps.map fun p => (renI c p.1, p.2)) (renI c t) = plF ps t := by
  unfold plF
  induction ps with
  | nil => rfl
  | cons p r ih =>
    rw [List.map_cons, List.find?_cons, List.find?_cons]
    have e : decide (renI c p.1 = renI c t) = decide (p.1 = t) := by unfold renI; exact decide_eq_decide.2 ⟨fun q => by omega, fun q => by omega⟩
    simp only [e]
    by_cases hp : p.1 = t
    · simp [hp]
    · simp only [hp, decide_false]; exact ih
theorem gOf_ren (c : Int) (ps : List (Int × Int)) (t : Int) : gOf (ps.map fun p => (renI c p.1, p.2)) (renI c t) = gOf ps t := by
  unfold gOf; rw [plF_ren]
theorem renY_op (c : Int) (y : Int × In) : (renY c y).2.op = 0 ↔ y.2.op = 0 := by
  unfold renY
  split
  · rename_i h; exact ⟨fun _ => h, fun _ => rfl⟩
  · rename_i h
    simp only
    rw [(atI_arms _ _).1]
theorem codeI_ren (c : Int) (ps : List (Int × Int)) (ys : List (Int × In)) : codeI (gOf (ps.map fun p => (renI c p.1, p.2))) (ys.map (renY c)) = codeI (gOf ps) ys := by
  induction ys with
  | nil => rfl
  | cons y r ih =>
    rw [List.map_cons]
    simp only [codeI]
    by_cases h : y.2.op = 0
    · rw [if_pos ((renY_op c y).2 h), if_pos h]; exact ih
    · rw [if_neg (fun q => h ((renY_op c y).1 q)), if_neg h, ih]
      have e : (renY c y).2 = atI (renI c) y.2 := by unfold renY; rw [if_neg h]
      rw [e, atI_atI]
      have : (fun t => gOf (ps.map fun p => (renI c p.1, p.2)) (renI c t)) = gOf ps := funext fun t => gOf_ren c ps t
      rw [this]
/-- What an addition asks of a line that may be. -/
theorem addL_in {st st' : List (Int × Int) × Int} {y : Int × In} (h : addL st y = .inr st') : (y.2.op ≠ 0 → y.1 = 0 ∧ y.2.size ≠ 0 ∧ st' = (st.1, st.2 + (y.2.size : Int))) ∧ (y.2.op = 0 → y.2 = zI ∧ plF st.1 y.1 = none ∧ 0 ≤ y.1 ∧ y.1 ≤ 2147483647 ∧ st' = (st.1 ++ [(y.1, st.2)], st.2)) := by
  unfold addL at h
  by_cases h0 : y.2.op = 0
  · refine ⟨fun q => absurd h0 q, fun _ => ?_⟩
    rw [if_neg (by simpa using h0)] at h
    split at h
    · cases h
    · rename_i h1
      split at h
      · cases h
      · rename_i h2
        cases h
        refine ⟨?_, ?_, ?_, ?_, rfl⟩
        · obtain ⟨lab, op, a, b, ar⟩ := y
          simp only [not_or, ne_eq, Classical.not_not] at h1 h0
          obtain ⟨ha, hb, hc⟩ := h1
          simp only at h0 ha hb hc ⊢
          subst h0 ha hb hc
          rfl
        · exact Classical.byContradiction fun q => h2 (.inl q)
        · exact Int.not_lt.1 fun q => h2 (.inr (.inl q))
        · exact Int.not_lt.1 fun q => h2 (.inr (.inr q))
  · refine ⟨fun _ => ?_, fun q => absurd q h0⟩
    rw [if_pos h0] at h
    split at h
    · cases h
    · rename_i h1
      cases h
      exact ⟨Classical.byContradiction fun q => h1 (.inr q), fun q => h1 (.inl q), rfl⟩
theorem addL_label (st : List (Int × Int) × Int) (n : Int) (h1 : plF st.1 n = none) (h2 : 0 ≤ n) (h3 : n ≤ 2147483647) : addL st (n, zI) = .inr (st.1 ++ [(n, st.2)], st.2) := by
  unfold addL
  rw [if_neg (by simp [zI]), if_neg (by simp [zI]), if_neg]
  intro q
  rcases q with q | q | q
  · exact q h1
  · simp only at q; omega
  · simp only at q; omega
theorem addL_instr (st : List (Int × Int) × Int) (x : In) (h1 : x.op ≠ 0) (h2 : x.size ≠ 0) : addL st (0, x) = .inr (st.1, st.2 + (x.size : Int)) := by
  unfold addL
  rw [if_pos h1, if_neg]
  simp [h2]
theorem addL_ren {c : Int} (hc : 0 ≤ c ∧ c < 1000) {st st' : List (Int × Int) × Int} {y : Int × In} (h : addL st y = .inr st') (hl : y.2.op = 0 → y.1 ≤ 1048576) (ht : y.2.op ≠ 0 → ∀ t ∈ tgs y.2, 0 ≤ t ∧ t ≤ 1048576) : addL (renP c st) (renY c y) = .inr (renP c st') := by
  obtain ⟨h1, h2⟩ := addL_in h
  by_cases h0 : y.2.op = 0
  · obtain ⟨e1, e2, e3, e4, e5⟩ := h2 h0
    have hl := hl h0
    unfold renY
    rw [if_pos h0, addL_label (renP c st) (renI c y.1) ((plF_ren c st.1 y.1).trans e2) (by unfold renI; omega) (by unfold renI; omega), e5]
    simp [renP]
  · obtain ⟨e1, e2, e3⟩ := h1 h0
    have ht := ht h0
    have hs : (atI (renI c) y.2).size = y.2.size := atI_size2 e2 (fun t q => by have := ht t q; unfold renI; omega)
    unfold renY
    rw [if_neg h0, addL_instr _ _ (by rw [(atI_arms _ _).1]; exact h0) (by rw [hs]; exact e2), hs, e3]
    rfl
theorem addsL_ren {c : Int} (hc : 0 ≤ c ∧ c < 1000) (ys : List (Int × In)) (hl : ∀ y ∈ ys, y.2.op = 0 → y.1 ≤ 1048576) (ht : ∀ y ∈ ys, y.2.op ≠ 0 → ∀ t ∈ tgs y.2, 0 ≤ t ∧ t ≤ 1048576) : ∀ (st st' : List (Int × Int) × Int), addsL ys st = .inr st' → addsL (ys.map (renY c)) (renP c st) = .inr (renP c st') := by
  induction ys with
  | nil => intro st st' h; cases h; rfl
  | cons y r ih =>
    intro st st' h
    simp only [addsL] at h
    cases ha : addL st y with
    | inl e => rw [ha] at h; cases h
    | inr s1 =>
      rw [ha] at h
      simp only at h
      rw [List.map_cons]
      simp only [addsL]
      rw [addL_ren hc ha (hl y (by simp)) (ht y (by simp))]
      exact ih (fun z hz => hl z (by simp [hz])) (fun z hz => ht z (by simp [hz])) _ _ h
/-- The labels of a layout are labels of the lines. -/
theorem addsL_lab (ys : List (Int × In)) : ∀ (st st' : List (Int × Int) × Int), addsL ys st = .inr st' → (∀ p ∈ st'.1, p ∈ st.1 ∨ ∃ y ∈ ys, y.2.op = 0 ∧ y.1 = p.1 ∧ 0 ≤ y.1 ∧ y.1 ≤ 2147483647) ∧ ∀ y ∈ ys, (y.2.op = 0 → y.2 = zI ∧ 0 ≤ y.1 ∧ y.1 ≤ 2147483647) ∧ (y.2.op ≠ 0 → y.1 = 0 ∧ y.2.size ≠ 0) := by
  induction ys with
  | nil => intro st st' h; cases h; exact ⟨fun p hp => .inl hp, fun y hy => by cases hy⟩
  | cons y r ih =>
    intro st st' h
    simp only [addsL] at h
    cases ha : addL st y with
    | inl e => rw [ha] at h; cases h
    | inr s1 =>
      rw [ha] at h
      simp only at h
      obtain ⟨h1, h2⟩ := ih _ _ h
      obtain ⟨a1, a2⟩ := addL_in ha
      refine ⟨fun p hp => ?_, fun z hz => ?_⟩
      · rcases h1 p hp with q | ⟨z, hz, q⟩
        · by_cases h0 : y.2.op = 0
          · obtain ⟨b1, b2, b3, b4, b5⟩ := a2 h0
            rw [b5] at q
            rcases List.mem_append.1 q with q | q
            · exact .inl q
            · obtain rfl := List.mem_singleton.1 q
              exact .inr ⟨y, by simp, h0, rfl, b3, b4⟩
          · obtain ⟨b1, b2, b3⟩ := a1 h0
            rw [b3] at q
            exact .inl q
        · exact .inr ⟨z, by simp [hz], q⟩
      · rcases List.mem_cons.1 hz with rfl | hz
        · exact ⟨fun h0 => ⟨(a2 h0).1, (a2 h0).2.2.1, (a2 h0).2.2.2.1⟩, fun h0 => ⟨(a1 h0).1, (a1 h0).2.1⟩⟩
        · exact h2 z hz
theorem plF_key {ps : List (Int × Int)} {t p : Int} (h : plF ps t = some p) : ∃ x ∈ ps, x.1 = t := by
  unfold plF at h
  cases hf : ps.find? (fun x => decide (x.1 = t)) with
  | none => rw [hf] at h; cases h
  | some x => exact ⟨x, List.mem_of_find?_eq_some hf, by simpa using List.find?_some hf⟩
/-- What is known of lines that may be. -/
theorem layoutL_may {ys : List (Int × In)} {st : List (Int × Int) × Int} (h : layoutL ys = .inr st) : addsL ys ([], 0) = .inr st ∧ (∀ y ∈ ys, leadsB st.1 y.2 = true) ∧ (∀ y ∈ ys, (y.2.op = 0 → y.2 = zI ∧ 0 ≤ y.1 ∧ y.1 ≤ 2147483647) ∧ (y.2.op ≠ 0 → y.1 = 0 ∧ y.2.size ≠ 0)) ∧ ∀ y ∈ ys, ∀ t ∈ tgs y.2, ∃ z ∈ ys, z.2.op = 0 ∧ z.1 = t ∧ 0 ≤ t ∧ t ≤ 2147483647 := by
  unfold layoutL at h
  cases ha : addsL ys ([], 0) with
  | inl e => rw [ha] at h; cases h
  | inr s1 =>
    rw [ha] at h
    simp only at h
    split at h
    · rename_i hl
      cases h
      rw [List.all_eq_true] at hl
      obtain ⟨h1, h2⟩ := addsL_lab ys _ _ ha
      refine ⟨rfl, hl, h2, fun y hy t ht => ?_⟩
      have := hl y hy
      unfold leadsB at this
      rw [List.all_eq_true] at this
      have := this t ht
      cases hf : plF st.1 t with
      | none => rw [hf] at this; cases this
      | some p =>
        obtain ⟨x, hx, rfl⟩ := plF_key hf
        rcases h1 x hx with q | ⟨z, hz, q1, q2, q3, q4⟩
        · cases q
        · exact ⟨z, hz, q1, q2, by rw [← q2]; exact q3, by rw [← q2]; exact q4⟩
    · cases h
theorem codeP_ren {c : Int} (ys : List (Int × In)) (hs : ∀ y ∈ ys, y.2.op ≠ 0 → (atI (renI c) y.2).size = y.2.size) : ∀ a, codeP (ys.map (renY c)) a = codeP ys a := by
  induction ys with
  | nil => intro a; rfl
  | cons y r ih =>
    intro a
    rw [List.map_cons]
    simp only [codeP]
    have ih := ih (fun z hz => hs z (by simp [hz]))
    by_cases h : y.2.op = 0
    · rw [if_pos ((renY_op c y).2 h), if_pos h]; exact ih a
    · rw [if_neg (fun q => h ((renY_op c y).1 q)), if_neg h, ih]
      have e : (renY c y).2 = atI (renI c) y.2 := by unfold renY; rw [if_neg h]
      rw [e, hs y (by simp) h]
theorem layoutL_ren {c : Int} (hc : 0 ≤ c ∧ c < 1000) {ys : List (Int × In)} {st : List (Int × Int) × Int} (h : layoutL ys = .inr st) (hl : ∀ y ∈ ys, y.2.op = 0 → y.1 ≤ 1048576) : layoutL (ys.map (renY c)) = .inr (renP c st) ∧ ∀ y ∈ ys, y.2.op ≠ 0 → (atI (renI c) y.2).size = y.2.size := by
  obtain ⟨h1, h2, h3, h4⟩ := layoutL_may h
  have ht : ∀ y ∈ ys, y.2.op ≠ 0 → ∀ t ∈ tgs y.2, 0 ≤ t ∧ t ≤ 1048576 := fun y hy _ t q => by
    obtain ⟨z, hz, q1, q2, q3, q4⟩ := h4 y hy t q
    have := hl z hz q1
    omega
  have h5 := addsL_ren hc ys hl ht _ _ h1
  refine ⟨?_, fun y hy h0 => atI_size2 ((h3 y hy).2 h0).2 (fun t q => by have := ht y hy h0 t q; unfold renI; omega)⟩
  unfold layoutL
  have e0 : renP c ([], 0) = ([], 0) := rfl
  rw [e0] at h5
  rw [h5]
  simp only
  rw [if_pos]
  rw [List.all_eq_true]
  intro z hz
  obtain ⟨y, hy, rfl⟩ := List.mem_map.1 hz
  unfold leadsB renY
  split
  · rfl
  · simp only
    rw [tgs_atI, List.all_eq_true]
    intro u hu
    obtain ⟨t, ht, rfl⟩ := List.mem_map.1 hu
    unfold renP
    rw [plF_ren]
    have := h2 y hy
    unfold leadsB at this
    rw [List.all_eq_true] at this
    exact this t ht
theorem ren_same {c : Int} (hc : 0 ≤ c ∧ c < 1000) {ys : List (Int × In)} {st : List (Int × Int) × Int} (h : layoutL ys = .inr st) (hl : ∀ y ∈ ys, y.2.op = 0 → y.1 ≤ 1048576) : codeA (ys.map (renY c)) = codeA ys ∧ normL (ys.map (renY c)) = normL ys := by
  obtain ⟨h1, h2⟩ := layoutL_ren hc h hl
  unfold codeA normL
  rw [h, h1]
  simp only [renP]
  rw [codeI_ren]
  unfold normC
  rw [codeI_ren, codeP_ren ys h2]
  exact ⟨rfl, rfl⟩
end Go.Proofs.YtkmmnocooibljaaGreatDoor
namespace Go.Proofs.YtkmmnocooibljaaGreatDoor
open Go.ChangeShapes Go.WideShapes Go.ChangeAt Go.RowKit Go.Deep
set_option linter.unusedVariables false

def strN (xs : List Nat) : ByteArray := strOfNums (xs.map fun (c : Nat) => (c : Int))
theorem conv_any {w : World} {a : Option Addr} {L cap : Nat} {xs : List Nat} (hl : Lies w a xs) (hL : L = xs.length) :
    (convert 30 9 (.slice a L cap)).run Tryz.prog w = .ok (.string (strN xs)) w := by
  obtain ⟨_, _, h3⟩ := hl
  subst hL
  rcases h3 with rfl | ⟨b, off, rfl, hc⟩
  · cases a with
    | none => exact run_convert_bytes_nil w 30 5 Tryz.underlying30 Tryz.underlying5 0 cap 9 Tryz.underlying9
    | some x =>
      show (convert 30 9 (.slice (some x) 0 cap)).run Tryz.prog w = _
      rw [run_convert_bytes_string w 30 9 5 (some x) 0 cap Tryz.underlying30 Tryz.underlying5 Tryz.underlying9]
      exact run_bytesToString w x 0 cap [] (by simp [loadCells, loadCellsFrom])
  · exact run_convert_bytes_arg w 30 5 Tryz.underlying30 Tryz.underlying5 b off _ cap (xs.map fun (c : Nat) => (c : Int)) (by simp) (fun i hi => by rw [hc i hi]; simp [List.getD, hi]) 9 Tryz.underlying9

/-- Pick. -/
def pk (i n : Int) : Int := if n < 1 then 0 else i % n
set_option maxRecDepth 100000 in
theorem pick_as (i n : Int) (h1 : -9223372036854775808 ≤ i) (h2 : i ≤ 9223372036854775807) (hn : n ≤ 9223372036854775807) (p : Int) (hp : pk i n = p) (w : World) : Calls Tryz.prog 35 #[.int .i64 i, .int .i64 n] w fun e w' => e = .returned (.int .i64 p) ∧ w = w' := by
  unfold pk at hp
  by_cases h0 : n < 1
  · rw [if_pos h0] at hp
    subst hp
    go_enter Tryz.func35, Tryz.ntmps35
    go_wp2
    go_ret
    exact ⟨rfl, rfl⟩
  · rw [if_neg h0] at hp
    have hz : (n == 0) = false := by simp; omega
    have hm : n ≠ -1 := by omega
    by_cases hneg : i.tmod n < 0
    · have hq : i.tmod n + n = p := by
        rw [← hp]
        rw [Int.tmod_eq_emod] at hneg ⊢
        split at hneg
        · have := Int.emod_nonneg i (show n ≠ 0 by omega); omega
        · rename_i hh; rw [if_neg hh]; omega
      have hb := Int.tmod_lt_of_pos i (show 0 < n by omega)
      have hb2 : -n < i.tmod n := by
        have := Int.emod_nonneg i (show n ≠ 0 by omega)
        rw [Int.tmod_eq_emod]; split <;> omega
      clear hp
      go_enter Tryz.func35, Tryz.ntmps35
      go_wp2
      go_ret
      refine ⟨ret_int ?_, rfl⟩
      first | rfl | exact hq | (unfold wrap64; omega)
    · have hq : i.tmod n = p := by
        rw [← hp]
        rw [Int.tmod_eq_emod] at hneg ⊢
        have := Int.emod_nonneg i (show n ≠ 0 by omega)
        have := Int.emod_lt_of_pos i (show 0 < n by omega)
        split
        · omega
        · rename_i hh; rw [if_neg hh] at hneg; omega
      clear hp
      subst hq
      go_enter Tryz.func35, Tryz.ntmps35
      go_wp2
      go_ret
      exact ⟨rfl, rfl⟩
end Go.Proofs.YtkmmnocooibljaaGreatDoor
namespace Go.Proofs.YtkmmnocooibljaaGreatDoor
open Go.RowKit Go.Maps
set_option linter.unusedVariables false
set_option linter.unusedSimpArgs false

def aoOf : Value → Option Addr
  | .slice a _ _ => a
  | _ => none
def cpOf : Value → Nat
  | .slice _ _ c => c
  | _ => 0
def toLn (y : Int × In × Value) : LnP := ⟨y.1, y.2.1, aoOf y.2.2, cpOf y.2.2⟩
def zQ : Int × In × Value := (0, zI, .slice none 0 0)
theorem toLn_l (ps : List (Int × In × Value)) : (ps.map toLn).map LnP.l = ps.map qL := by rw [List.map_map]; rfl
theorem lnC_get (x : List (Int × In × Value)) (i : Nat) (h : i < x.length) : (lnC x)[i * 5]? = some (.int .i64 (x.getD i zQ).1) ∧ (lnC x)[i * 5 + 1]? = some (.int .u8 ((x.getD i zQ).2.1.op : Int)) ∧ (lnC x)[i * 5 + 2]? = some (.int .i64 (x.getD i zQ).2.1.a) ∧ (lnC x)[i * 5 + 3]? = some (.int .i64 (x.getD i zQ).2.1.b) ∧ (lnC x)[i * 5 + 4]? = some (x.getD i zQ).2.2 := by
  induction x generalizing i with
  | nil => cases h
  | cons y r ih =>
    have e : lnC (y :: r) = .int .i64 y.1 :: .int .u8 (y.2.1.op : Int) :: .int .i64 y.2.1.a :: .int .i64 y.2.1.b :: y.2.2 :: lnC r := rfl
    rw [e]
    cases i with
    | zero => exact ⟨rfl, rfl, rfl, rfl, rfl⟩
    | succ i =>
      have := ih i (by simpa using h)
      rw [show (i + 1) * 5 = i * 5 + 1 + 1 + 1 + 1 + 1 by omega]
      simpa using this
theorem getD_toLn (ps : List (Int × In × Value)) (i : Nat) (h : i < ps.length) : (ps.map toLn).getD i zLn = toLn (ps.getD i zQ) := by
  simp [List.getD, h]
/-- LINES OF A CALL'S OWN, as lines that came in. -/
theorem lnrow_in {w : World} {B : Nat} {v : Value} {ps : List (Int × In × Value)} (h : LnRow w B v ps) (hn : ∀ y ∈ ps, N64 y.1 ∧ Num y.2.1 ∧ y.2.1.arms.length ≤ 140737488355328) (hl : ps.length ≤ 140737488355328) :
    ∃ a c, v = .slice a ps.length c ∧ LnsIn w a (ps.map toLn) ∧ ∀ y ∈ ps.map toLn, y.ao = none → y.cp = 0 := by
  obtain ⟨a, c, rfl, -⟩ := h.row.shape
  have hsh : ∀ y ∈ ps, y.2.2 = .slice (aoOf y.2.2) y.2.1.arms.length (cpOf y.2.2) ∧ ArmLies w (aoOf y.2.2) y.2.1.arms ∧ (aoOf y.2.2 = none → cpOf y.2.2 = 0) := fun y hy => by
    have k := (h.arms y hy).1
    obtain ⟨ao, cp, he, hal⟩ := rw_armLies k (hn y hy).2.1.arms
    rw [he] at k ⊢
    refine ⟨rfl, hal, fun e0 => ?_⟩
    simp only [aoOf] at e0
    subst e0
    rcases k.2 with ⟨q, _⟩ | ⟨_, _, _, q, _⟩
    · simp only [Value.slice.injEq] at q; exact q.2.2
    · simp at q
  refine ⟨a, c, rfl, ⟨?_, fun z hz => ?_, by rw [List.length_map]; exact hl⟩, fun z hz => ?_⟩
  · rw [List.length_map]
    refine rw_rowAt h.row (Nat.le_refl _) (fun i hi d hd => ?_)
    obtain ⟨g0, g1, g2, g3, g4⟩ := lnC_get ps i hi
    have hs := (hsh _ (getD_in (z := zQ) hi)).1
    unfold lnF
    rw [getD_toLn ps i hi]
    rcases (by omega : d = 0 ∨ d = 1 ∨ d = 2 ∨ d = 3 ∨ d = 4) with rfl | rfl | rfl | rfl | rfl
    · exact g0
    · exact g1
    · exact g2
    · exact g3
    · rw [g4, hs]; rfl
  · obtain ⟨y, hy, rfl⟩ := List.mem_map.1 hz
    obtain ⟨h1, h2, h3⟩ := hn y hy
    exact ⟨h1, ⟨h2.op, h2.a, h2.b, (hsh y hy).2.1⟩, h3⟩
  · obtain ⟨y, hy, rfl⟩ := List.mem_map.1 hz
    exact (hsh y hy).2.2
/-- The lines that are built: they lie in memory of the call's own. -/
structure NmSt (W wr : World) (v : Value) (ps : List (Int × In × Value)) : Prop where
  row : LnRow wr W.heap.size v ps
  bel : Below W.heap.size W wr
theorem NmSt.below {W w w' : World} {v : Value} {ps : List (Int × In × Value)} (h : NmSt W w v ps) (hb : Below w.heap.size w w') : NmSt W w' v ps := ⟨h.row.below hb, h.bel.trans (hb.mono h.bel.size)⟩
theorem NmSt.put {W w wa wz : World} {v v' : Value} {ps : List (Int × In × Value)} (h : NmSt W w v ps) (ha : Below w.heap.size w wa) (y : Int × In × Value) {m : Nat} (hm : m = ps.length) (q1 : Rw wz 56 5 v' (m + 1) (lnC ps ++ [Value.int .i64 y.1, .int .u8 (y.2.1.op : Int), .int .i64 y.2.1.a, .int .i64 y.2.1.b, y.2.2])) (q2 : wa.grownBy wz v.ownBlock) (q3 : v'.ownBlock = v.ownBlock ∨ v'.ownBlock = some wa.heap.size)
    (hy : Rw wa 51 2 y.2.2 y.2.1.arms.length (armC y.2.1.arms)) (hyn : ∀ b, y.2.2.ownBlock = some b → W.heap.size ≤ b) : NmSt W wz v' (ps ++ [y]) := by
  subst hm
  have hA := h.below ha
  have hro := hA.row.row
  have er : ∀ {size : Nat} {e : TypeId} {v : Value} {n : Nat} {xs : List Value}, Rw wa e size v n xs → e ≠ 56 → Rw wz e size v n xs := fun {size e v n xs} k he => k.grown q2 (fun j ej e2 => k.ne2 hro he j ej e2.symm)
  refine ⟨⟨?_, fun b e => ?_, fun z hz => ?_⟩, hA.bel.grown q2 hA.bel.size (fun k e => h.row.new k e)⟩
  · rw [List.length_append, lnC_snoc]; exact q1
  · rcases q3 with q3 | q3
    · exact h.row.new b (by rw [← q3]; exact e)
    · rw [q3] at e; cases e; exact hA.bel.size
  · rcases List.mem_append.1 hz with hz | hz
    · exact ⟨er (hA.row.arms z hz).1 (by decide), (h.row.arms z hz).2⟩
    · obtain rfl := List.mem_singleton.1 hz
      exact ⟨er hy (by decide), hyn⟩
theorem NmSt.set {W w : World} {v : Value} {ps : List (Int × In × Value)} (h : NmSt W w v ps) {g : Nat} {cs : Array Value} {t : TypeId} (ho : Own w g cs t) (h1 : t ≠ 56) (h2 : t ≠ 51) (hg : W.heap.size ≤ g) (i : Nat) (u : Value) : NmSt W (w.setCell ⟨g, i, none⟩ u) v ps :=
  ⟨⟨h.row.row.set (h.row.row.ne ho h1.symm) i u, h.row.new, fun y hy => ⟨(h.row.arms y hy).1.set ((h.row.arms y hy).1.ne ho h2.symm) i u, (h.row.arms y hy).2⟩⟩, below_fr h.bel ((Fr.refl (fun k => k = g) w).set (g := g) (.inr rfl) i u) (fun k q => by omega)⟩
theorem NmSt.start (W w : World) (h : Below W.heap.size W w) : NmSt W w (.slice none 0 0) [] := ⟨LnRow.nil _ _, h⟩
/-- What has been done of the lines. -/
structure NmK (c : Int) (xs : List LnP) (k : Nat) (ps : List (Int × In × Value)) : Prop where
  eq : ps.map qL = ((xs.take k).map LnP.l).map (renY c)
  lab : ∀ y ∈ xs.take k, y.x.op = 0 → y.lab ≤ 1048576
theorem NmK.len {c : Int} {xs : List LnP} {k : Nat} {ps : List (Int × In × Value)} (h : NmK c xs k ps) : ps.length ≤ xs.length := by
  have := congrArg List.length h.eq
  simp only [List.length_map, List.length_take] at this
  omega
theorem NmK.next {c : Int} {xs : List LnP} {k : Nat} {ps : List (Int × In × Value)} (h : NmK c xs k ps) (hk : k < xs.length) (y : Int × In × Value) (hy : qL y = renY c (xs.getD k zLn).l) (hl : (xs.getD k zLn).x.op = 0 → (xs.getD k zLn).lab ≤ 1048576) : NmK c xs (k + 1) (ps ++ [y]) := by
  constructor
  · rw [take_l hk, List.map_append, List.map_append, h.eq]
    simp [hy]
  · intro z hz
    rw [List.take_add_one, List.getElem?_eq_getElem hk] at hz
    have e : xs.getD k zLn = xs[k] := by simp [List.getD, hk]
    rcases List.mem_append.1 hz with q | q
    · exact h.lab z q
    · simp only [Option.toList_some, List.mem_singleton] at q
      subst q
      rw [e] at hl
      exact hl
theorem renY_num {c : Int} (hc : 0 ≤ c ∧ c < 1000) {y : Int × In} (h1 : N64 y.1) (h2 : Num y.2) (h3 : y.2.op = 0 → 0 ≤ y.1 ∧ y.1 ≤ 1048576) (h4 : ∀ t ∈ tgs y.2, 0 ≤ t ∧ t ≤ 2147483647) {A : Nat} (h5 : y.2.arms.length ≤ A) : N64 (renY c y).1 ∧ Num (renY c y).2 ∧ (renY c y).2.arms.length ≤ A := by
  have hz : N64 0 := by constructor <;> omega
  unfold renY
  split
  · rename_i h0
    have := h3 h0
    exact ⟨by unfold renI N64; simp only; omega, ⟨by simp [zI], hz, hz, fun z q => by simp [zI] at q⟩, by simp [zI]⟩
  · refine ⟨hz, ?_, by simp only; rw [(atI_arms _ _).2]; exact h5⟩
    have e : atI (renI c) y.2 = atI (fun t => if 0 ≤ t ∧ t ≤ 2147483647 then renI c t else 0) y.2 := by
      unfold atI
      congr 2
      refine List.map_congr_left fun t ht => ?_
      rw [if_pos (h4 t ht)]
    simp only
    rw [e]
    refine atI_num h2 (fun t => ?_)
    split
    · unfold renI N64; omega
    · exact hz
end Go.Proofs.YtkmmnocooibljaaGreatDoor
namespace Go.Proofs.YtkmmnocooibljaaGreatDoor
open Go.RowKit Go.Maps
set_option linter.unusedVariables false
set_option linter.unusedSimpArgs false

theorem codr_sh {w : World} {r : List Nat × Nat} {e : Ending} {w' : World} (h : CodR w r e w') : ∃ ao cp, e = .returned (.tuple #[.slice ao r.1.length cp, .int .i64 (r.2 : Int)]) ∧ Rw w' 5 1 (.slice ao r.1.length cp) r.1.length (nums r.1) ∧ Below w.heap.size w w' := by
  obtain ⟨v, rfl, h1, h2, h3⟩ := h
  obtain ⟨ao, cp, rfl, -⟩ := h1.shape
  exact ⟨ao, cp, rfl, h1, h3⟩
theorem conv_rw {w : World} {ao : Option Addr} {L cp : Nat} {xs : List Nat} (hL : xs.length = L) (h : Rw w 5 1 (.slice ao L cp) L (nums xs)) (hb : ∀ c ∈ xs, c < 256) (hm : xs.length ≤ 9223372036854775807) : (convert 30 9 (.slice ao L cp)).run Tryz.prog w = .ok (.string (strN xs)) w := by
  subst hL
  refine conv_any ?_ rfl
  by_cases h0 : xs = []
  · exact ⟨hb, hm, .inl h0⟩
  · obtain ⟨g, cap, cur, e, -⟩ := h.block (List.length_pos_iff.2 h0)
    cases e
    exact lies_row rfl h hb hm
theorem codeA_small {ys : List (Int × In)} {st : List (Int × Int) × Int} (h : layoutL ys = .inr st) (ho : ∀ y ∈ ys, y.2.op < 256) : (∀ c ∈ (codeA ys).1, c < 256) ∧ (codeA ys).1.length ≤ 65536 := by
  have e : codeA ys = if 65536 < st.2 then ([], 3) else (codeB (codeI (gOf st.1) ys), 0) := by unfold codeA; rw [h]
  rw [e]
  split
  · exact ⟨fun c q => by simp at q, by simp⟩
  · rename_i hb
    refine ⟨fun c q => ?_, ?_⟩
    · obtain ⟨l, hl1, q⟩ := List.mem_flatten.1 q
      obtain ⟨x, hx, rfl⟩ := List.mem_map.1 hl1
      obtain ⟨z, hz, rfl⟩ := codeI_mem hx
      exact enc_byte _ (by rw [(atI_arms _ _).1]; exact ho z hz) c q
    · simp only
      rw [code_len h hb]
      have := (layoutL_inr h).1
      omega
theorem reachM_mem (H : List Int) (st : List (Int × In) × Nat) (p : Int) {z : Int × In} (hz : z ∈ (reachM H st p).1) : z ∈ st.1 ∨ z = ((st.2 : Int), zI) := by
  unfold reachM at hz
  split at hz
  · rcases List.mem_append.1 hz with q | q
    · exact .inl q
    · exact .inr (List.mem_singleton.1 q)
  · exact .inl hz
theorem fold_mem (H : List Int) (ys : List (In × Nat)) : ∀ (st : List (Int × In) × Nat) (z : Int × In), z ∈ (ys.foldl (stepM H) st).1 → z ∈ st.1 ∨ (∃ m : Nat, m ≤ st.2 + ys.length ∧ z = ((m : Int), zI)) ∨ ∃ y ∈ ys, z = (0, atI (numF H) y.1) := by
  induction ys with
  | nil => intro st z hz; exact .inl hz
  | cons y r ih =>
    intro st z hz
    rw [List.foldl_cons] at hz
    have hl := (reachM_len H st (y.2 : Int)).2
    rcases ih (stepM H st y) z hz with q | ⟨m, hm, q⟩ | ⟨x, hx, q⟩
    · unfold stepM at q
      rcases List.mem_append.1 q with q | q
      · rcases reachM_mem H st _ q with q | q
        · exact .inl q
        · exact .inr (.inl ⟨st.2, by simp, q⟩)
      · exact .inr (.inr ⟨y, by simp, List.mem_singleton.1 q⟩)
    · refine .inr (.inl ⟨m, ?_, q⟩)
      unfold stepM at hm
      simp only [List.length_cons] at hm ⊢
      omega
    · exact .inr (.inr ⟨x, by simp [hx], q⟩)
theorem linesM_mem (H : List Int) (ys : List (In × Nat)) (en : Int) {z : Int × In} (hz : z ∈ (linesM H ys en).1) : (∃ m : Nat, m ≤ ys.length ∧ z = ((m : Int), zI)) ∨ ∃ y ∈ ys, z = (0, atI (numF H) y.1) := by
  unfold linesM at hz
  rcases reachM_mem H _ _ hz with q | q
  · rcases fold_mem H ys _ z q with q | ⟨m, hm, q⟩ | q
    · cases q
    · exact .inl ⟨m, by simpa using hm, q⟩
    · exact .inr q
  · exact .inl ⟨_, (fold_len H ys).2, q⟩
theorem numF_n64 {H : List Int} (hH : H.length ≤ 100000000000) (t : Int) : N64 (numF H t) := by
  have := List.countP_le_length (p := fun x : Int => decide (x < t)) (l := H)
  unfold numF N64
  omega
/-- What normal lines hold. -/
theorem normL_num {xs : List LnP} (hm : xs.length ≤ 150000) (hN : ∀ y ∈ xs, Num y.x ∧ y.x.arms.length ≤ 350000) : ∀ z ∈ (normL (xs.map LnP.l)).1, N64 z.1 ∧ Num z.2 ∧ z.2.arms.length ≤ 350000 := by
  intro z hz
  have h0 : N64 0 := by constructor <;> omega
  unfold normL at hz
  cases hl : layoutL (xs.map LnP.l) with
  | inl e => rw [hl] at hz; cases hz
  | inr st =>
    rw [hl] at hz
    simp only at hz
    obtain ⟨hsz, hpr, hok, -⟩ := layoutL_inr hl
    have hsl : st.2 ≤ 1000000000000 := by
      have := sizeL_le (xs.map LnP.l)
      rw [List.length_map] at *
      omega
    have hs0 : 0 ≤ st.2 := by omega
    have hg : ∀ t, N64 (gOf st.1 t) := fun t => by
      have := plF_range hpr hs0 t
      unfold gOf N64; omega
    have h1 : (codeI (gOf st.1) (xs.map LnP.l)).length ≤ 150000 := by
      have := codeI_le (gOf st.1) (xs.map LnP.l)
      rw [List.length_map] at *
      omega
    have h2 : ∀ x ∈ codeI (gOf st.1) (xs.map LnP.l), Num x ∧ x.arms.length ≤ 350000 := fun x hx => by
      obtain ⟨y, hy, rfl⟩ := codeI_mem hx
      obtain ⟨X, hX, rfl⟩ := List.mem_map.1 hy
      exact ⟨atI_num (hN X hX).1 hg, by rw [(atI_arms _ _).2]; exact (hN X hX).2⟩
    have hH : (headsL (codeI (gOf st.1) (xs.map LnP.l))).length ≤ 100000000000 := by
      refine Nat.le_trans (headsL_length _) ?_
      have := allT_bound _ 350001 (fun x hx => by have := (h2 x hx).2; omega)
      have : (codeI (gOf st.1) (xs.map LnP.l)).length * 350001 ≤ 150000 * 350001 := Nat.mul_le_mul_right _ h1
      omega
    unfold normC at hz
    rcases linesM_mem _ _ _ hz with ⟨m, hm2, rfl⟩ | ⟨y, hy, rfl⟩
    · rw [List.length_zip] at hm2
      have := Nat.min_le_left (codeI (gOf st.1) (xs.map LnP.l)).length (codeP (xs.map LnP.l) 0).length
      refine ⟨by unfold N64; omega, ⟨by simp [zI], h0, h0, fun z q => by simp [zI] at q⟩, by simp [zI]⟩
    · obtain ⟨y1, y2⟩ := y
      have := h2 _ (List.of_mem_zip hy).1
      exact ⟨h0, atI_num this.1 (numF_n64 hH), by simp only; rw [(atI_arms _ _).2]; exact this.2⟩
theorem normL_len {xs : List LnP} (hm : xs.length ≤ 150000) : (normL (xs.map LnP.l)).1.length ≤ 1000000 := by
  unfold normL
  cases hl : layoutL (xs.map LnP.l) with
  | inl e => simp
  | inr st =>
    simp only
    unfold normC linesM
    have h1 := reachM_len (headsL (codeI (gOf st.1) (xs.map LnP.l))) (((codeI (gOf st.1) (xs.map LnP.l)).zip (codeP (xs.map LnP.l) 0)).foldl (stepM (headsL (codeI (gOf st.1) (xs.map LnP.l)))) ([], 0)) st.2
    have h2 := fold_len (headsL (codeI (gOf st.1) (xs.map LnP.l))) ((codeI (gOf st.1) (xs.map LnP.l)).zip (codeP (xs.map LnP.l) 0))
    have h3 := codeI_le (gOf st.1) (xs.map LnP.l)
    have h4 : ((codeI (gOf st.1) (xs.map LnP.l)).zip (codeP (xs.map LnP.l) 0)).length ≤ (codeI (gOf st.1) (xs.map LnP.l)).length := by rw [List.length_zip]; exact Nat.min_le_left _ _
    rw [List.length_map] at h3
    omega
theorem nrm_in {w : World} {r : List (Int × In) × Nat} {e : Ending} {w' : World} (h : NrmR w r e w') (hn : ∀ z ∈ r.1, N64 z.1 ∧ Num z.2 ∧ z.2.arms.length ≤ 350000) (hl : r.1.length ≤ 1000000) : ∃ a c xs, e = .returned (.tuple #[.slice a r.1.length c, .int .i64 (r.2 : Int)]) ∧ xs.length = r.1.length ∧ LnsIn w' a xs ∧ xs.map LnP.l = r.1 ∧ Below w.heap.size w w' := by
  obtain ⟨vo, ps, rfl, hps, hrow, hb⟩ := h
  have hlen : ps.length = r.1.length := by rw [← hps, List.length_map]
  obtain ⟨a, c, rfl, h1, -⟩ := lnrow_in hrow (fun y hy => by
    have := hn (qL y) (by rw [← hps]; exact List.mem_map.2 ⟨y, hy, rfl⟩)
    exact ⟨this.1, this.2.1, Nat.le_trans (show y.2.1.arms.length ≤ 350000 from this.2.2) (by omega)⟩) (by omega)
  exact ⟨a, c, ps.map toLn, by rw [hlen], by rw [List.length_map, hlen], h1, by rw [toLn_l, hps], hb⟩
end Go.Proofs.YtkmmnocooibljaaGreatDoor
