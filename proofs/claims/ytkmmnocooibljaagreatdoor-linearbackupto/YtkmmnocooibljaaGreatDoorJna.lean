/-
  NORMAL LINES.
  LINES WITH OTHER LABELS' NUMBERS: the same code, the same normal form.
  THERE AND BACK: the lines of placed instructions are lines that may be, whose instructions and places are those again.
  Pick; bytes as a string.
  LINEARNAMES: what its walk wants.
  LINEARNAMES: THE LAW IS WALKED.
  THERE AND BACK: the code of lines, the lines of a code, normal lines.
  Ab, what is reached of it.
-/
import Derived.Test.YtkmmnocooibljaaGreatDoorNo
import Derived.Test.YtkmmnocooibljaaGreatDoorNz
import Derived.Test.YtkmmnocooibljaaGreatDoorJlp
import Derived.Test.YtkmmnocooibljaaGreatDoorJwd
import Derived.WalkKit
import Derived.WalkLawsBesides
import Derived.WalkSpells
import Derived.Handy
import Derived.Outline
import Derived.Below
import Derived.Lib.SmallJoins
import Derived.Lib.SliceRun
import Derived.Maps.AppendAt
import Derived.Maps.Own
import Derived.Maps.Views
import Derived.Laws.BytesArg
import Derived.Laws.AppendOwnNone
import Derived.Laws.MathBits
import Derived.Laws.Bits64b
import Derived.Laws.BitsAllLaws
import Derived.Laws.CopyRow
import Derived.Deep.MidRow
import Derived.Deep.Cut
import Derived.Deep.CutBlock
import Derived.Deep.Onto
import Derived.Deep.RegionHeld3
import Derived.Deep.LoopGhost
import Derived.Deep.QuietTactic
import Derived.BigQuiet
import Derived.Test.YtkmmnocooibljaaGreatDoorChecked
import Derived.Deep.Slices
import Derived.ProofKit
import Derived.OpenShut
import Derived.Carry
import Derived.SizedLaws
import Derived.Test.YtkmmnocooibljaaGreatDoorLwk
import Derived.Test.YtkmmnocooibljaaGreatDoorNc
namespace Go.Proofs.YtkmmnocooibljaaGreatDoor
open Go.RowKit Go.Maps
set_option linter.unusedVariables false
set_option linter.unusedSimpArgs false

theorem tgs_len3 (x : In) : (tgs x).length ≤ x.arms.length + 1 := by
  unfold tgs
  split
  · simp
  · split
    · simp
    · simp
theorem allT_bound (il : List In) (c : Nat) (h : ∀ x ∈ il, x.arms.length + 1 ≤ c) : (allT il).length ≤ il.length * c := by
  induction il with
  | nil => simp [allT]
  | cons x r ih =>
    have h1 := h x (by simp)
    have h2 := ih (fun y hy => h y (by simp [hy]))
    have h3 := tgs_len3 x
    have e : allT (x :: r) = tgs x ++ allT r := by simp [allT]
    rw [e, List.length_append, List.length_cons, Nat.succ_mul]
    omega
def normC (PS : List (Int × Int)) (ZZ : Int) (ys : List (Int × In)) : List (Int × In) := (linesM (headsL (codeI (gOf PS) ys)) ((codeI (gOf PS) ys).zip (codeP ys 0)) ZZ).1
/-- What Normal answers. -/
def normL (ys : List (Int × In)) : List (Int × In) × Nat := match layoutL ys with
  | .inl er => ([], er)
  | .inr st => (normC st.1 st.2 ys, 0)
def NrmR (w : World) (r : List (Int × In) × Nat) (e : Ending) (w' : World) : Prop :=
  ∃ vo ps, e = .returned (.tuple #[vo, .int .i64 (r.2 : Int)]) ∧ ps.map qL = r.1 ∧ LnRow w' w.heap.size vo ps ∧ Below w.heap.size w w'
set_option maxHeartbeats 4000000 in
set_option maxRecDepth 100000 in
theorem lnNormal_as {w : World} {a : Option Addr} {n c : Nat} {xs : List LnP} (hn : n = xs.length) (h : LnsIn w a xs) (hno : ∀ y ∈ xs, y.ao = none → y.cp = 0) (hm : n ≤ 150000) (hA : ∀ y ∈ xs, y.x.arms.length ≤ 350000) :
    Calls Tryz.prog 11 #[.slice a n c] w (NrmR w (normL (xs.map LnP.l))) := by
  have HLO : Hid (Calls Tryz.prog 40 #[.slice a n c] w (LoR w (layoutL (xs.map LnP.l)))) := lnlayoutOf_as hn h (by omega) (fun y hy => by have := hA y hy; omega)
  have HCD : Hid (∀ W b (st : List (Int × Int)) (sz : Int), Below w.heap.size w W → PlAt W b st → Calls Tryz.prog 41 #[.agg #[.map (some b), .int .i64 sz], .slice a n c] W (PcR W sz (codeI (gOf st) (xs.map LnP.l)) (codeP (xs.map LnP.l) 0))) := fun W b st sz q1 q2 => lncode_as q2 hn (h.below q1) hno (fun y hy => tgs_n64 (h.each y hy).ins) (by omega) (fun y hy => by have := hA y hy; omega)
  have HNM : Hid (∀ y ∈ xs, Num y.x) := fun y hy => num_of (h.each y hy).ins
  have HAA : Hid (∀ y ∈ xs, y.x.arms.length ≤ 350000) := hA
  have HLN : Hid (xs.length ≤ 150000) := by unfold Hid; omega
  cases hl : layoutL (xs.map LnP.l) with
  | inl er =>
    have hR : normL (xs.map LnP.l) = ([], er) := by unfold normL; rw [hl]
    rw [hR]
    rw [hl] at HLO
    have her := layoutL_er hl
    have hr1 : ((er : Int) == 0) = false := by rw [beq_eq_false_iff_ne]; omega
    have hr2 : ((er : Int) != 0) = true := by simp [bne, hr1]
    clear hR HCD HNM HAA HLN hl h hno hA hm hn
    go_enter Tryz.func11, Tryz.ntmps11
    go_wp2_with fail
    refine Calls.mono HLO.out ?_
    rintro e w2 ⟨rfl, b2⟩
    have HB : Hid (Below w.heap.size w w2) := b2
    clear b2 HLO
    go_wp2
    go_ret2
    exact ⟨_, [], rfl, rfl, LnRow.nil _ _, HB.out.alloc HB.out.size _⟩
  | inr st =>
    have hR : normL (xs.map LnP.l) = (normC st.1 st.2 (xs.map LnP.l), 0) := by unfold normL; rw [hl]
    rw [hR]
    rw [hl] at HLO
    obtain ⟨hsz, hpr, hok, -⟩ := layoutL_inr hl
    have hsl : st.2 ≤ 1000000000000 := by
      have := sizeL_le (xs.map LnP.l)
      have := HLN.out
      rw [List.length_map] at *
      omega
    have hs0 : 0 ≤ st.2 := by omega
    have HG : Hid (∀ t, N64 (gOf st.1 t)) := fun t => by
      have := plF_range hpr hs0 t
      unfold gOf N64; omega
    clear hR hl h hno hA hm hn hpr hok hsz
    obtain ⟨PS, ZZ⟩ := st
    simp only at hsl hs0 HG HLO ⊢
    have HIL : Hid ((codeI (gOf PS) (xs.map LnP.l)).length ≤ 1000000 ∧ (∀ x ∈ codeI (gOf PS) (xs.map LnP.l), Num x ∧ x.arms.length ≤ 900000) ∧ (allT (codeI (gOf PS) (xs.map LnP.l))).length ≤ 100000000000) := by
      have h1 : (codeI (gOf PS) (xs.map LnP.l)).length ≤ 150000 := by
        have := codeI_le (gOf PS) (xs.map LnP.l)
        have := HLN.out
        rw [List.length_map] at *
        omega
      have h2 : ∀ x ∈ codeI (gOf PS) (xs.map LnP.l), Num x ∧ x.arms.length ≤ 350000 := fun x hx => by
        obtain ⟨y, hy, rfl⟩ := codeI_mem hx
        obtain ⟨X, hX, rfl⟩ := List.mem_map.1 hy
        refine ⟨atI_num (HNM.out X hX) HG.out, ?_⟩
        rw [(atI_arms _ _).2]
        exact HAA.out X hX
      refine ⟨by omega, fun x hx => ⟨(h2 x hx).1, by have := (h2 x hx).2; omega⟩, ?_⟩
      have := allT_bound _ 350001 (fun x hx => by have := (h2 x hx).2; omega)
      have : (codeI (gOf PS) (xs.map LnP.l)).length * 350001 ≤ 150000 * 350001 := Nat.mul_le_mul_right _ h1
      omega
    have HCP : Hid ((codeP (xs.map LnP.l) 0).length = (codeI (gOf PS) (xs.map LnP.l)).length) := codeIP_length _ _ _
    unfold normC
    have HCD2 : Hid (∀ W b (sz : Int), Below w.heap.size w W → PlAt W b PS → Calls Tryz.prog 41 #[.agg #[.map (some b), .int .i64 sz], .slice a n c] W (PcR W sz (codeI (gOf PS) (xs.map LnP.l)) (codeP (xs.map LnP.l) 0))) := fun W b sz => HCD.out W b PS sz
    generalize codeI (gOf PS) (xs.map LnP.l) = IL at *
    clear HCD HG HNM HAA HLN
    generalize codeP (xs.map LnP.l) 0 = CP at *
    go_enter Tryz.func11, Tryz.ntmps11
    go_wp2_with fail
    refine Calls.mono HLO.out ?_
    rintro e w2 ⟨b, rfl, hb, hpl, b2⟩
    simp only at hpl ⊢
    have HB : Hid (Below w.heap.size w (w2.alloc (.cells #[.map (some b), .int .i64 ZZ] 65))) := b2.alloc b2.size _
    have HPL : Hid (PlAt (w2.alloc (.cells #[.map (some b), .int .i64 ZZ] 65)) b PS) := hpl.below (new_below _ _)
    have oL := Own.new w2 #[.map (some b), .int .i64 ZZ] 65
    clear b2 HLO hpl hb
    go_upto_region 2 with fail
    generalize w2.alloc (.cells #[.map (some b), .int .i64 ZZ] 65) = w3 at *
    have z0 := oL.cell 0
    have z1 := oL.cell 1
    simp only [List.getElem?_toArray, List.getElem?_cons_zero, List.getElem?_cons_succ] at z0 z1
    go_wp2_with fail
    refine Calls.mono (HCD2.out w3 b ZZ HB.out HPL.out) ?_
    rintro e w4 ⟨vl, vp, ps, rfl, hps, hrow, hints, hin, b4⟩
    have HB4 : Hid (Below w.heap.size w w4) := HB.out.trans (b4.mono HB.out.size)
    have HLI : Hid (Calls Tryz.prog 42 #[.agg #[vl, vp, .int .i64 ZZ]] w4 (LinR w4 (linesM (headsL IL) (IL.zip CP) ZZ) (headsL IL).length)) := by
      have h1 := HIL.out
      have h2 := HCP.out
      rw [← hps] at h1 h2 ⊢
      rw [List.length_map] at h1 h2
      exact lnlines_as hrow hints (fun y hy => h1.2.1 _ (List.mem_map.2 ⟨y, hy, rfl⟩)) h2 h1.1 h1.2.2
    obtain ⟨al, cl, rfl, -⟩ := hrow.row.shape
    obtain ⟨ap, cpp, rfl, -⟩ := hints.shape
    clear hps hrow hints hin b4 HB HPL oL z0 z1 HCD2 HIL HCP
    go_wp2_with fail
    refine Calls.mono HLI.out ?_
    rintro e w5 ⟨vo, qs, rfl, hqs, hr5, b5⟩
    have HFIN : Hid (NrmR w ((linesM (headsL IL) (IL.zip CP) ZZ).1, 0) (.returned (.tuple #[vo, .int .i64 0])) w5) := ⟨vo, qs, rfl, hqs, ⟨hr5.row, fun b e => Nat.le_trans HB4.out.size (hr5.new b e), fun y hy => ⟨(hr5.arms y hy).1, fun b e => Nat.le_trans HB4.out.size ((hr5.arms y hy).2 b e)⟩⟩, HB4.out.trans (b5.mono HB4.out.size)⟩
    clear HLI hqs hr5 b5 HB4
    go_wp2
    go_ret2
    exact HFIN.out
end Go.Proofs.YtkmmnocooibljaaGreatDoor
namespace Go.Proofs.YtkmmnocooibljaaGreatDoor
open Go.RowKit Go.Maps
set_option linter.unusedVariables false
set_option linter.unusedSimpArgs false

def renI (c : Int) (t : Int) : Int := t * 7 + c
def renY (c : Int) (y : Int × In) : Int × In := if y.2.op = 0 then (renI c y.1, zI) else (0, atI (renI c) y.2)
theorem tgs_atI (g : Int → Int) (x : In) : tgs (atI g x) = (tgs x).map g := by
  obtain ⟨op, a, b, ar⟩ := x
  unfold atI movX
  rw [if_neg (by rw [List.length_map]; omega)]
  simp only
  split
  · rename_i h1
    have ht : tgs ⟨op, a, b, ar⟩ = [a] := by unfold tgs; rw [if_pos h1]
    rw [ht]
    unfold tgs; rw [if_pos h1]; rfl
  · split
    · rename_i h1 h2
      subst h2
      have ht : tgs ⟨49, a, b, ar⟩ = ar.map Prod.snd ++ [b] := rfl
      rw [ht]
      have hlen : ((ar.map Prod.snd ++ [b]).map g).length = ar.length + 1 := by simp
      have hlast : ((ar.map Prod.snd ++ [b]).map g).getD ar.length 0 = g b := by simp [List.getD]
      unfold tgs
      simp only
      rw [if_neg (by omega), if_pos trivial]
      rw [setTo_snd _ _ (by rw [hlen]; omega), hlast]
      simp
    · rename_i h1 h2
      unfold tgs
      rw [if_neg h1, if_neg h2]; rfl
theorem setTo_g (g : Int → Int) (ar : List (Int × Int)) (b : Int) : setTo ar ((ar.map Prod.snd ++ [b]).map g) = ar.map fun y => (y.1, g y.2) := by
  unfold setTo
  induction ar with
  | nil => rfl
  | cons y r ih =>
    simp only [List.map_cons, List.cons_append, List.zipWith_cons_cons]
    rw [ih]
theorem atI_jump (g : Int → Int) (x : In) (h : x.op = 46 ∨ x.op = 47 ∨ x.op = 48) : atI g x = ⟨x.op, g x.a, x.b, x.arms⟩ := by
  have ht : tgs x = [x.a] := by unfold tgs; rw [if_pos h]
  unfold atI movX
  rw [ht, if_neg (by simp)]
  simp only
  rw [if_pos h]
  rfl
theorem atI_sw (g : Int → Int) (x : In) (h : x.op = 49) : atI g x = ⟨x.op, x.a, g x.b, x.arms.map fun y => (y.1, g y.2)⟩ := by
  have hn : ¬ (x.op = 46 ∨ x.op = 47 ∨ x.op = 48) := by omega
  have ht : tgs x = x.arms.map Prod.snd ++ [x.b] := by unfold tgs; rw [if_neg hn, if_pos h]
  unfold atI movX
  rw [ht, if_neg (by simp)]
  simp only
  rw [if_neg hn, if_pos h, setTo_g]
  congr 1
  simp [List.getD]
theorem atI_else (g : Int → Int) (x : In) (h1 : ¬ (x.op = 46 ∨ x.op = 47 ∨ x.op = 48)) (h2 : x.op ≠ 49) : atI g x = x := by
  unfold atI movX
  rw [if_neg (by rw [List.length_map]; omega)]
  simp only
  rw [if_neg h1, if_neg h2]
theorem atI_atI (g h : Int → Int) (x : In) : atI h (atI g x) = atI (fun t => h (g t)) x := by
  have o := (atI_arms g x).1
  by_cases h1 : x.op = 46 ∨ x.op = 47 ∨ x.op = 48
  · rw [atI_jump h _ (by rw [o]; exact h1), atI_jump (fun t => h (g t)) x h1, atI_jump g x h1]
  · by_cases h2 : x.op = 49
    · rw [atI_sw h _ (by rw [o]; exact h2), atI_sw (fun t => h (g t)) x h2, atI_sw g x h2]
      simp only [List.map_map]
      rfl
    · rw [atI_else h _ (by rw [o]; exact h1) (by rw [o]; exact h2), atI_else g x h1 h2, atI_else _ x h1 h2]
theorem may_lab {t : Int} (h : 0 ≤ t ∧ t ≤ 4294967295) : nPlace.may t = true := by
  unfold Nm.may nPlace
  simp only [Bool.and_eq_true, decide_eq_true_eq]; omega
theorem atI_ok2 {g : Int → Int} {x : In} (h : x.ok = true) (hg : ∀ t ∈ tgs x, 0 ≤ g t ∧ g t ≤ 4294967295) : (atI g x).ok = true := by
  obtain ⟨op, a, b, ar⟩ := x
  unfold atI movX
  rw [if_neg (by rw [List.length_map]; omega)]
  simp only
  split
  · rename_i h1
    have hl : lay op = some ⟨nPlace, nNone, false⟩ := by rcases h1 with rfl | rfl | rfl <;> rfl
    unfold In.ok at *
    simp only at h ⊢
    rw [hl] at h ⊢
    have ht : tgs ⟨op, a, b, ar⟩ = [a] := by unfold tgs; rw [if_pos h1]
    rw [ht] at hg ⊢
    simp only [Lay.has, Bool.and_eq_true] at h ⊢
    exact ⟨may_lab (hg a (by simp)), h.2.1, h.2.2⟩
  · split
    · rename_i h1 h2
      subst h2
      have hl : lay 49 = some ⟨nWidth, nPlace, true⟩ := rfl
      have ht : tgs ⟨49, a, b, ar⟩ = ar.map Prod.snd ++ [b] := rfl
      rw [ht] at hg ⊢
      have hlen : ((ar.map Prod.snd ++ [b]).map g).length = ar.length + 1 := by simp
      have hlast : ((ar.map Prod.snd ++ [b]).map g).getD ar.length 0 = g b := by simp [List.getD]
      unfold In.ok at *
      simp only at h ⊢
      rw [hl] at h ⊢
      simp only [Lay.has, Lay.hasArms, Bool.and_eq_true, if_true, decide_eq_true_eq, List.all_eq_true] at h ⊢
      refine ⟨h.1, by rw [hlast]; exact may_lab (hg b (by simp)), by rw [setTo_length (by rw [hlen]; omega)]; exact h.2.2.1, fun y hy => ?_⟩
      obtain ⟨⟨z, hz, e⟩, h3⟩ := setTo_mem hy
      obtain ⟨t, ht, e2⟩ := List.mem_map.1 h3
      exact ⟨by rw [e]; exact (h.2.2.2 z hz).1, by rw [← e2]; exact may_lab (hg t ht)⟩
    · exact h
theorem atI_size2 {g : Int → Int} {x : In} (h : x.size ≠ 0) (hg : ∀ t ∈ tgs x, 0 ≤ g t ∧ g t ≤ 4294967295) : (atI g x).size = x.size := by
  have h1 := size_ok h
  have h2 := atI_ok2 h1 hg
  obtain ⟨l1, e1, e2⟩ := ok_size h1
  obtain ⟨l2, e3, e4⟩ := ok_size h2
  obtain ⟨o1, o2⟩ := atI_arms g x
  rw [o1, e1] at e3
  cases e3
  rw [e4, e2, o2]
/-- What an addition asks of a line that may be. -/
theorem addL_in {st st' : List (Int × Int) × Int} {y : Int × In} (h : addL st y = .inr st') : (y.2.op ≠ 0 → y.1 = 0 ∧ y.2.size ≠ 0 ∧ st' = (st.1, st.2 + (y.2.size : Int))) ∧ (y.2.op = 0 → y.2 = zI ∧ plF st.1 y.1 = none ∧ 0 ≤ y.1 ∧ y.1 ≤ 2147483647 ∧ st' = (st.1 ++ [(y.1, st.2)], st.2)) := by
  unfold addL at h
  by_cases h0 : y.2.op = 0
  · refine ⟨fun q => absurd h0 q, fun _ => ?_⟩
    rw [if_neg (by simpa using h0)] at h
    split at h
    · cases h
    · rename_i h1
      split at h
      · cases h
      · rename_i h2
        cases h
        refine ⟨?_, ?_, ?_, ?_, rfl⟩
        · obtain ⟨lab, op, a, b, ar⟩ := y
          simp only [not_or, ne_eq, Classical.not_not] at h1 h0
          obtain ⟨ha, hb, hc⟩ := h1
          simp only at h0 ha hb hc ⊢
          subst h0 ha hb hc
          rfl
        · exact Classical.byContradiction fun q => h2 (.inl q)
        · exact Int.not_lt.1 fun q => h2 (.inr (.inl q))
        · exact Int.not_lt.1 fun q => h2 (.inr (.inr q))
  · refine ⟨fun _ => ?_, fun q => absurd q h0⟩
    rw [if_pos h0] at h
    split at h
    · cases h
    · rename_i h1
      cases h
      exact ⟨Classical.byContradiction fun q => h1 (.inr q), fun q => h1 (.inl q), rfl⟩
theorem addL_label (st : List (Int × Int) × Int) (n : Int) (h1 : plF st.1 n = none) (h2 : 0 ≤ n) (h3 : n ≤ 2147483647) : addL st (n, zI) = .inr (st.1 ++ [(n, st.2)], st.2) := by
  unfold addL
  rw [if_neg (by simp [zI]), if_neg (by simp [zI]), if_neg]
  intro q
  rcases q with q | q | q
  · exact q h1
  · simp only at q; omega
  · simp only at q; omega
theorem addL_instr (st : List (Int × Int) × Int) (x : In) (h1 : x.op ≠ 0) (h2 : x.size ≠ 0) : addL st (0, x) = .inr (st.1, st.2 + (x.size : Int)) := by
  unfold addL
  rw [if_pos h1, if_neg]
  simp [h2]
/-- The labels of a layout are labels of the lines. -/
theorem addsL_lab (ys : List (Int × In)) : ∀ (st st' : List (Int × Int) × Int), addsL ys st = .inr st' → (∀ p ∈ st'.1, p ∈ st.1 ∨ ∃ y ∈ ys, y.2.op = 0 ∧ y.1 = p.1 ∧ 0 ≤ y.1 ∧ y.1 ≤ 2147483647) ∧ ∀ y ∈ ys, (y.2.op = 0 → y.2 = zI ∧ 0 ≤ y.1 ∧ y.1 ≤ 2147483647) ∧ (y.2.op ≠ 0 → y.1 = 0 ∧ y.2.size ≠ 0) := by
  induction ys with
  | nil => intro st st' h; cases h; exact ⟨fun p hp => .inl hp, fun y hy => by cases hy⟩
  | cons y r ih =>
    intro st st' h
    simp only [addsL] at h
    cases ha : addL st y with
    | inl e => rw [ha] at h; cases h
    | inr s1 =>
      rw [ha] at h
      simp only at h
      obtain ⟨h1, h2⟩ := ih _ _ h
      obtain ⟨a1, a2⟩ := addL_in ha
      refine ⟨fun p hp => ?_, fun z hz => ?_⟩
      · rcases h1 p hp with q | ⟨z, hz, q⟩
        · by_cases h0 : y.2.op = 0
          · obtain ⟨b1, b2, b3, b4, b5⟩ := a2 h0
            rw [b5] at q
            rcases List.mem_append.1 q with q | q
            · exact .inl q
            · obtain rfl := List.mem_singleton.1 q
              exact .inr ⟨y, by simp, h0, rfl, b3, b4⟩
          · obtain ⟨b1, b2, b3⟩ := a1 h0
            rw [b3] at q
            exact .inl q
        · exact .inr ⟨z, by simp [hz], q⟩
      · rcases List.mem_cons.1 hz with rfl | hz
        · exact ⟨fun h0 => ⟨(a2 h0).1, (a2 h0).2.2.1, (a2 h0).2.2.2.1⟩, fun h0 => ⟨(a1 h0).1, (a1 h0).2.1⟩⟩
        · exact h2 z hz
theorem plF_key {ps : List (Int × Int)} {t p : Int} (h : plF ps t = some p) : ∃ x ∈ ps, x.1 = t := by
  unfold plF at h
  cases hf : ps.find? (fun x => decide (x.1 = t)) with
  | none => rw [hf] at h; cases h
  | some x => exact ⟨x, List.mem_of_find?_eq_some hf, by simpa using List.find?_some hf⟩
/-- What is known of lines that may be. -/
theorem layoutL_may {ys : List (Int × In)} {st : List (Int × Int) × Int} (h : layoutL ys = .inr st) : addsL ys ([], 0) = .inr st ∧ (∀ y ∈ ys, leadsB st.1 y.2 = true) ∧ (∀ y ∈ ys, (y.2.op = 0 → y.2 = zI ∧ 0 ≤ y.1 ∧ y.1 ≤ 2147483647) ∧ (y.2.op ≠ 0 → y.1 = 0 ∧ y.2.size ≠ 0)) ∧ ∀ y ∈ ys, ∀ t ∈ tgs y.2, ∃ z ∈ ys, z.2.op = 0 ∧ z.1 = t ∧ 0 ≤ t ∧ t ≤ 2147483647 := by
  unfold layoutL at h
  cases ha : addsL ys ([], 0) with
  | inl e => rw [ha] at h; cases h
  | inr s1 =>
    rw [ha] at h
    simp only at h
    split at h
    · rename_i hl
      cases h
      rw [List.all_eq_true] at hl
      obtain ⟨h1, h2⟩ := addsL_lab ys _ _ ha
      refine ⟨rfl, hl, h2, fun y hy t ht => ?_⟩
      have := hl y hy
      unfold leadsB at this
      rw [List.all_eq_true] at this
      have := this t ht
      cases hf : plF st.1 t with
      | none => rw [hf] at this; cases this
      | some p =>
        obtain ⟨x, hx, rfl⟩ := plF_key hf
        rcases h1 x hx with q | ⟨z, hz, q1, q2, q3, q4⟩
        · cases q
        · exact ⟨z, hz, q1, q2, by rw [← q2]; exact q3, by rw [← q2]; exact q4⟩
    · cases h
end Go.Proofs.YtkmmnocooibljaaGreatDoor
namespace Go.Proofs.YtkmmnocooibljaaGreatDoor
open Go.RowKit Go.Maps
set_option linter.unusedVariables false
set_option linter.unusedSimpArgs false

theorem arr_get (zs : List Int) (i : Nat) (h : i < zs.length) : zs.toArray[i]! = zs.getD i 0 := by simp [List.getD, h]
theorem sorted_get {zs : List Int} (hs : zs.Pairwise (· ≤ ·)) {i j : Nat} (h : i < j) (hj : j < zs.length) : zs.getD i 0 ≤ zs.getD j 0 := by
  have := List.pairwise_iff_getElem.1 hs i j (by omega) hj h
  simpa [List.getD, show i < zs.length by omega, hj] using this
theorem cmp_inv (zs : List Int) (hs : zs.Pairwise (· ≤ ·)) : ∀ m, m ≤ zs.length → (Go.Lib.compactUpTo zs.toArray m).Pairwise (· < ·) ∧ (∀ x ∈ Go.Lib.compactUpTo zs.toArray m, 0 < m ∧ x ≤ zs.getD (m - 1) 0) ∧ ∀ i, i < m → zs.getD i 0 ∈ Go.Lib.compactUpTo zs.toArray m := by
  intro m
  induction m with
  | zero => intro _; exact ⟨by simp [Go.Lib.compactUpTo], fun x hx => by simp [Go.Lib.compactUpTo] at hx, fun i hi => by omega⟩
  | succ m ih =>
    intro hm
    obtain ⟨h1, h2, h3⟩ := ih (by omega)
    have ea := arr_get zs m (by omega)
    rw [Go.Lib.compactUpTo_succ]
    by_cases h0 : m = 0
    · subst h0
      have hk : Go.Lib.keeps zs.toArray 0 = true := by simp [Go.Lib.keeps]
      have hc : Go.Lib.compactUpTo zs.toArray 0 = [] := by simp [Go.Lib.compactUpTo]
      rw [hk, hc, ea]
      refine ⟨by simp, fun x hx => ?_, fun i hi => ?_⟩
      · simp at hx; subst hx; simp
      · obtain rfl : i = 0 := by omega
        simp
    · have eb := arr_get zs (m - 1) (by omega)
      have hle : zs.getD (m - 1) 0 ≤ zs.getD m 0 := sorted_get hs (by omega) (by omega)
      by_cases hne : zs.getD m 0 = zs.getD (m - 1) 0
      · have hk : Go.Lib.keeps zs.toArray m = false := Go.Lib.keeps_neg (by omega) (by rw [ea, eb]; exact hne)
        rw [hk]
        simp only [Bool.false_eq_true, if_false, List.append_nil]
        refine ⟨h1, fun x hx => ⟨by omega, ?_⟩, fun i hi => ?_⟩
        · have := (h2 x hx).2
          simp only [Nat.add_sub_cancel]
          omega
        · rcases Nat.lt_or_ge i m with q | q
          · exact h3 i q
          · obtain rfl : i = m := by omega
            rw [hne]; exact h3 _ (by omega)
      · have hk : Go.Lib.keeps zs.toArray m = true := Go.Lib.keeps_pos (by rw [ea, eb]; exact hne)
        rw [hk, ea]
        simp only [if_true]
        refine ⟨?_, fun x hx => ⟨by omega, ?_⟩, fun i hi => ?_⟩
        · rw [List.pairwise_append]
          refine ⟨h1, by simp, fun x hx y hy => ?_⟩
          obtain rfl := List.mem_singleton.1 hy
          have := (h2 x hx).2
          omega
        · simp only [Nat.add_sub_cancel]
          rcases List.mem_append.1 hx with q | q
          · have := (h2 x q).2; omega
          · rw [List.mem_singleton.1 q]; exact Int.le_refl _
        · rcases Nat.lt_or_ge i m with q | q
          · exact List.mem_append_left _ (h3 i q)
          · obtain rfl : i = m := by omega
            simp
theorem headsL_strict (il : List In) : (headsL il).Pairwise (· < ·) := (cmp_inv _ (srtI_sorted _) _ (Nat.le_refl _)).1
theorem headsL_mem {il : List In} {t : Int} : t ∈ headsL il ↔ t ∈ allT il := by
  constructor
  · intro h
    exact (srtI_mem _ _).1 ((cmpI_sub _).subset h)
  · intro h
    have h := (srtI_mem _ _).2 h
    obtain ⟨i, hi, e⟩ := List.mem_iff_getElem.1 h
    have := (cmp_inv _ (srtI_sorted (allT il)) _ (Nat.le_refl _)).2.2 i hi
    have e2 : (srtI (allT il)).getD i 0 = t := by simp [List.getD, hi, e]
    rw [e2] at this
    exact this
/-- How many are below. -/
def nB (H : List Int) (p : Int) : Nat := H.countP (fun y => decide (y < p))
def nE (H : List Int) (p : Int) : Nat := H.countP (fun y => decide (y ≤ p))
theorem numF_nB (H : List Int) (t : Int) : numF H t = (nB H t : Nat) := rfl
theorem nB_zero {H : List Int} {p : Int} (h : ∀ y ∈ H, p ≤ y) : nB H p = 0 := by
  unfold nB
  rw [List.countP_eq_zero]
  intro y hy
  have := h y hy
  simp; omega
theorem at_count {H : List Int} (hs : H.Pairwise (· < ·)) (p : Int) : (p ∈ H ↔ nB H p < H.length ∧ H.getD (nB H p) 0 = p) ∧ nE H p = nB H p + (if p ∈ H then 1 else 0) := by
  induction H with
  | nil => exact ⟨by simp, by simp [nB, nE]⟩
  | cons a r ih =>
    obtain ⟨ha, hr⟩ := List.pairwise_cons.1 hs
    obtain ⟨i1, i2⟩ := ih hr
    rcases Int.lt_trichotomy a p with q | q | q
    · have e1 : nB (a :: r) p = nB r p + 1 := by unfold nB; rw [List.countP_cons]; simp [q]
      have e2 : nE (a :: r) p = nE r p + 1 := by unfold nE; rw [List.countP_cons]; simp; omega
      have hne : p ≠ a := by omega
      rw [e1, e2, i2]
      refine ⟨?_, ?_⟩
      · rw [List.mem_cons, List.length_cons, List.getD_cons_succ]
        constructor
        · rintro (h | h)
          · exact absurd h hne
          · have := i1.1 h; exact ⟨by omega, this.2⟩
        · rintro ⟨h1, h2⟩
          exact .inr (i1.2 ⟨by omega, h2⟩)
      · simp only [List.mem_cons, hne, false_or]; omega
    · subst q
      have e1 : nB (a :: r) a = 0 := nB_zero (fun y hy => by
        rcases List.mem_cons.1 hy with rfl | hy
        · exact Int.le_refl _
        · exact Int.le_of_lt (ha y hy))
      have e2 : nE (a :: r) a = 1 := by
        unfold nE
        rw [List.countP_cons]
        have : r.countP (fun y => decide (y ≤ a)) = 0 := by
          rw [List.countP_eq_zero]; intro y hy; have := ha y hy; simp; omega
        rw [this]; simp
      rw [e1, e2]
      simp
    · have e1 : nB (a :: r) p = 0 := nB_zero (fun y hy => by
        rcases List.mem_cons.1 hy with rfl | hy
        · omega
        · have := ha y hy; omega)
      have e2 : nE (a :: r) p = 0 := by
        unfold nE
        rw [List.countP_eq_zero]
        intro y hy
        rcases List.mem_cons.1 hy with rfl | hy
        · simp; omega
        · have := ha y hy; simp; omega
      have hn : p ∉ a :: r := by
        intro h
        rcases List.mem_cons.1 h with h | h
        · omega
        · have := ha p h; omega
      rw [e1, e2]
      refine ⟨⟨fun h => absurd h hn, fun h => ?_⟩, by rw [if_neg hn]⟩
      simp at h
      omega
theorem count_get {H : List Int} (hs : H.Pairwise (· < ·)) {t : Int} (h : t ∈ H) : nB H t < H.length ∧ H.getD (nB H t) 0 = t := (at_count hs t).1.1 h
/-- The places of instructions, from one on. -/
def plcs : List In → Nat → List Nat
  | [], _ => []
  | x :: r, a => a :: plcs r (a + x.size)
def szs : List In → Nat
  | [] => 0
  | x :: r => x.size + szs r
/-- The labels that have been put. -/
def lH (H : List Int) (m : Nat) : List (Int × Int) := (List.range m).map fun (j : Nat) => ((j : Int), H.getD j 0)
theorem lH_succ (H : List Int) (m : Nat) : lH H (m + 1) = lH H m ++ [((m : Int), H.getD m 0)] := by simp [lH, List.range_succ]
theorem lH_none (H : List Int) (m : Nat) : plF (lH H m) (m : Int) = none := by
  unfold plF
  have : (lH H m).find? (fun x => decide (x.1 = (m : Int))) = none := by
    rw [List.find?_eq_none]
    intro x hx
    obtain ⟨j, hj, rfl⟩ := List.mem_map.1 hx
    have := List.mem_range.1 hj
    simp; omega
  rw [this]; rfl
theorem lH_some (H : List Int) (m j : Nat) (h : j < m) : plF (lH H m) (j : Int) = some (H.getD j 0) := by
  induction m with
  | zero => omega
  | succ m ih =>
    unfold plF at ih ⊢
    rw [lH_succ, List.find?_append]
    rcases Nat.lt_or_ge j m with q | q
    · have := ih q
      cases hf : (lH H m).find? (fun x => decide (x.1 = (j : Int))) with
      | none => rw [hf] at this; cases this
      | some x => rw [hf] at this; simpa using this
    · obtain rfl : j = m := by omega
      have hn := lH_none H j
      unfold plF at hn
      cases hf : (lH H j).find? (fun x => decide (x.1 = (j : Int))) with
      | none => simp
      | some x => rw [hf] at hn; cases hn
theorem addsL_app (a b : List (Int × In)) : ∀ (st s1 : List (Int × Int) × Int), addsL a st = .inr s1 → addsL (a ++ b) st = addsL b s1 := by
  induction a with
  | nil => intro st s1 h; cases h; rfl
  | cons y r ih =>
    intro st s1 h
    rw [List.cons_append]
    simp only [addsL] at h ⊢
    cases ha : addL st y with
    | inl e => rw [ha] at h; cases h
    | inr s2 => rw [ha] at h; simp only at h ⊢; exact ih s2 s1 h
/-- Where the lines stand ahead of a place. -/
structure At (H : List Int) (st : List (Int × In) × Nat) (il : List In) (pl : List Nat) (p : Nat) : Prop where
  add : addsL st.1 ([], 0) = .inr (lH H st.2, (p : Int))
  code : ∀ g, codeI g st.1 = il.map fun x => atI g (atI (numF H) x)
  plc : codeP st.1 0 = pl
  siz : sizeL st.1 = p
theorem At.reach {H : List Int} (hs : H.Pairwise (· < ·)) (hm : H.length ≤ 2147483647) {st : List (Int × In) × Nat} {il : List In} {pl : List Nat} {p : Nat} (h : At H st il pl p) (hn : st.2 = nB H (p : Int)) : At H (reachM H st (p : Int)) il pl p ∧ (reachM H st (p : Int)).2 = nE H (p : Int) := by
  obtain ⟨c1, c2⟩ := at_count hs (p : Int)
  rw [← hn] at c1
  by_cases hp : (p : Int) ∈ H
  · obtain ⟨q1, q2⟩ := c1.1 hp
    have e : reachM H st (p : Int) = (st.1 ++ [((st.2 : Int), zI)], st.2 + 1) := by unfold reachM; rw [if_pos ⟨q1, q2⟩]
    rw [e]
    refine ⟨⟨?_, fun g => ?_, ?_, ?_⟩, by rw [c2, if_pos hp, ← hn]⟩
    · simp only
      rw [addsL_app _ _ _ _ h.add]
      simp only [addsL]
      rw [addL_label _ _ (lH_none H st.2) (by omega) (by omega)]
      simp only
      rw [lH_succ, q2]
    · simp only
      rw [codeI_snoc, if_pos (by simp [zI]), List.append_nil]
      exact h.code g
    · simp only
      rw [codeP_snoc, if_pos (by simp [zI]), List.append_nil]
      exact h.plc
    · simp only
      rw [sizeL_snoc, if_pos (by simp [zI])]
      exact h.siz
  · have e : reachM H st (p : Int) = st := by unfold reachM; rw [if_neg (fun q => hp (c1.2 q))]
    rw [e]
    exact ⟨h, by rw [c2, if_neg hp, hn]; rfl⟩
theorem numF_le (H : List Int) (t : Int) : 0 ≤ numF H t ∧ numF H t ≤ H.length := by
  have := List.countP_le_length (p := fun x : Int => decide (x < t)) (l := H)
  unfold numF
  omega
theorem At.instr {H : List Int} (hm : H.length ≤ 2147483647) {st : List (Int × In) × Nat} {il : List In} {pl : List Nat} {p : Nat} (h : At H st il pl p) {x : In} (h0 : x.op ≠ 0) (h1 : x.size ≠ 0) : At H (st.1 ++ [(0, atI (numF H) x)], st.2) (il ++ [x]) (pl ++ [p]) (p + x.size) := by
  have ho : (atI (numF H) x).op ≠ 0 := by rw [(atI_arms _ _).1]; exact h0
  have hz : (atI (numF H) x).size = x.size := atI_size2 h1 (fun t _ => by have := numF_le H t; omega)
  refine ⟨?_, fun g => ?_, ?_, ?_⟩
  · simp only
    rw [addsL_app _ _ _ _ h.add]
    simp only [addsL]
    rw [addL_instr _ _ ho (by rw [hz]; exact h1), hz]
    simp
  · simp only
    rw [codeI_snoc, if_neg ho, h.code g, List.map_append]
    rfl
  · simp only
    rw [codeP_snoc, if_neg ho, h.plc, h.siz]
    simp
  · simp only
    rw [sizeL_snoc, if_neg ho, h.siz, hz]
theorem At.all {H : List Int} (hs : H.Pairwise (· < ·)) (hm : H.length ≤ 2147483647) (r : List In) : ∀ (st : List (Int × In) × Nat) (il : List In) (pl : List Nat) (p : Nat), (∀ x ∈ r, x.op ≠ 0 ∧ x.size ≠ 0) → (∀ y ∈ H, y < (p : Int) ∨ (∃ q ∈ plcs r p, y = (q : Int)) ∨ y = ((p + szs r : Nat) : Int)) → At H st il pl p → st.2 = nB H (p : Int) →
    At H ((r.zip (plcs r p)).foldl (stepM H) st) (il ++ r) (pl ++ plcs r p) (p + szs r) ∧ ((r.zip (plcs r p)).foldl (stepM H) st).2 = nB H ((p + szs r : Nat) : Int) := by
  induction r with
  | nil => intro st il pl p _ _ h hn; simpa [plcs, szs] using ⟨h, hn⟩
  | cons x r ih =>
    intro st il pl p hx hH h hn
    simp only [plcs, szs, List.zip_cons_cons, List.foldl_cons]
    obtain ⟨h1, h2⟩ := h.reach hs hm hn
    have hxx := hx x (by simp)
    have h3 := h1.instr hm hxx.1 hxx.2
    have e : stepM H st (x, p) = ((reachM H st (p : Int)).1 ++ [(0, atI (numF H) x)], (reachM H st (p : Int)).2) := rfl
    rw [e]
    have hge : ∀ (l : List In) (a : Nat), ∀ q ∈ plcs l a, a ≤ q := by
      intro l
      induction l with
      | nil => intro a q hq; simp [plcs] at hq
      | cons z l ih2 =>
        intro a q hq
        simp only [plcs] at hq
        rcases List.mem_cons.1 hq with rfl | hq
        · exact Nat.le_refl _
        · have := ih2 _ q hq; omega
    have hc : nE H (p : Int) = nB H ((p + x.size : Nat) : Int) := by
      unfold nE nB
      refine List.countP_congr (fun y hy => ?_)
      simp only [decide_eq_true_eq]
      constructor
      · intro q; have := hxx.2; omega
      · intro q
        rcases hH y hy with k | ⟨k, hk, rfl⟩ | k
        · omega
        · simp only [plcs] at hk
          rcases List.mem_cons.1 hk with rfl | hk
          · exact Int.le_refl _
          · have := hge r _ k hk; omega
        · simp only [szs] at k; omega
    have := ih ((reachM H st (p : Int)).1 ++ [(0, atI (numF H) x)], (reachM H st (p : Int)).2) (il ++ [x]) (pl ++ [p]) (p + x.size) (fun z hz => hx z (by simp [hz])) (fun y hy => by
      rcases hH y hy with k | ⟨k, hk, rfl⟩ | k
      · left; omega
      · simp only [plcs] at hk
        rcases List.mem_cons.1 hk with rfl | hk
        · left; have := hxx.2; omega
        · exact .inr (.inl ⟨k, hk, rfl⟩)
      · right; right; rw [k]; simp only [szs]; congr 1; omega) h3 (by rw [← hc]; exact h2)
    rw [List.append_assoc, List.append_assoc] at this
    rw [show p + (x.size + szs r) = p + x.size + szs r by omega]
    exact this
end Go.Proofs.YtkmmnocooibljaaGreatDoor
namespace Go.Proofs.YtkmmnocooibljaaGreatDoor
open Go.ChangeShapes Go.WideShapes Go.ChangeAt Go.RowKit Go.Deep
set_option linter.unusedVariables false

def strN (xs : List Nat) : ByteArray := strOfNums (xs.map fun (c : Nat) => (c : Int))
theorem conv_any {w : World} {a : Option Addr} {L cap : Nat} {xs : List Nat} (hl : Lies w a xs) (hL : L = xs.length) :
    (convert 30 9 (.slice a L cap)).run Tryz.prog w = .ok (.string (strN xs)) w := by
  obtain ⟨_, _, h3⟩ := hl
  subst hL
  rcases h3 with rfl | ⟨b, off, rfl, hc⟩
  · cases a with
    | none => exact run_convert_bytes_nil w 30 5 Tryz.underlying30 Tryz.underlying5 0 cap 9 Tryz.underlying9
    | some x =>
      show (convert 30 9 (.slice (some x) 0 cap)).run Tryz.prog w = _
      rw [run_convert_bytes_string w 30 9 5 (some x) 0 cap Tryz.underlying30 Tryz.underlying5 Tryz.underlying9]
      exact run_bytesToString w x 0 cap [] (by simp [loadCells, loadCellsFrom])
  · exact run_convert_bytes_arg w 30 5 Tryz.underlying30 Tryz.underlying5 b off _ cap (xs.map fun (c : Nat) => (c : Int)) (by simp) (fun i hi => by rw [hc i hi]; simp [List.getD, hi]) 9 Tryz.underlying9

end Go.Proofs.YtkmmnocooibljaaGreatDoor
namespace Go.Proofs.YtkmmnocooibljaaGreatDoor
open Go.RowKit Go.Maps
set_option linter.unusedVariables false
set_option linter.unusedSimpArgs false

def aoOf : Value → Option Addr
  | .slice a _ _ => a
  | _ => none
def cpOf : Value → Nat
  | .slice _ _ c => c
  | _ => 0
def toLn (y : Int × In × Value) : LnP := ⟨y.1, y.2.1, aoOf y.2.2, cpOf y.2.2⟩
def zQ : Int × In × Value := (0, zI, .slice none 0 0)
theorem toLn_l (ps : List (Int × In × Value)) : (ps.map toLn).map LnP.l = ps.map qL := by rw [List.map_map]; rfl
theorem lnC_get (x : List (Int × In × Value)) (i : Nat) (h : i < x.length) : (lnC x)[i * 5]? = some (.int .i64 (x.getD i zQ).1) ∧ (lnC x)[i * 5 + 1]? = some (.int .u8 ((x.getD i zQ).2.1.op : Int)) ∧ (lnC x)[i * 5 + 2]? = some (.int .i64 (x.getD i zQ).2.1.a) ∧ (lnC x)[i * 5 + 3]? = some (.int .i64 (x.getD i zQ).2.1.b) ∧ (lnC x)[i * 5 + 4]? = some (x.getD i zQ).2.2 := by
  induction x generalizing i with
  | nil => cases h
  | cons y r ih =>
    have e : lnC (y :: r) = .int .i64 y.1 :: .int .u8 (y.2.1.op : Int) :: .int .i64 y.2.1.a :: .int .i64 y.2.1.b :: y.2.2 :: lnC r := rfl
    rw [e]
    cases i with
    | zero => exact ⟨rfl, rfl, rfl, rfl, rfl⟩
    | succ i =>
      have := ih i (by simpa using h)
      rw [show (i + 1) * 5 = i * 5 + 1 + 1 + 1 + 1 + 1 by omega]
      simpa using this
theorem getD_toLn (ps : List (Int × In × Value)) (i : Nat) (h : i < ps.length) : (ps.map toLn).getD i zLn = toLn (ps.getD i zQ) := by
  simp [List.getD, h]
/-- LINES OF A CALL'S OWN, as lines that came in. -/
theorem lnrow_in {w : World} {B : Nat} {v : Value} {ps : List (Int × In × Value)} (h : LnRow w B v ps) (hn : ∀ y ∈ ps, N64 y.1 ∧ Num y.2.1 ∧ y.2.1.arms.length ≤ 140737488355328) (hl : ps.length ≤ 140737488355328) :
    ∃ a c, v = .slice a ps.length c ∧ LnsIn w a (ps.map toLn) ∧ ∀ y ∈ ps.map toLn, y.ao = none → y.cp = 0 := by
  obtain ⟨a, c, rfl, -⟩ := h.row.shape
  have hsh : ∀ y ∈ ps, y.2.2 = .slice (aoOf y.2.2) y.2.1.arms.length (cpOf y.2.2) ∧ ArmLies w (aoOf y.2.2) y.2.1.arms ∧ (aoOf y.2.2 = none → cpOf y.2.2 = 0) := fun y hy => by
    have k := (h.arms y hy).1
    obtain ⟨ao, cp, he, hal⟩ := rw_armLies k (hn y hy).2.1.arms
    rw [he] at k ⊢
    refine ⟨rfl, hal, fun e0 => ?_⟩
    simp only [aoOf] at e0
    subst e0
    rcases k.2 with ⟨q, _⟩ | ⟨_, _, _, q, _⟩
    · simp only [Value.slice.injEq] at q; exact q.2.2
    · simp at q
  refine ⟨a, c, rfl, ⟨?_, fun z hz => ?_, by rw [List.length_map]; exact hl⟩, fun z hz => ?_⟩
  · rw [List.length_map]
    refine rw_rowAt h.row (Nat.le_refl _) (fun i hi d hd => ?_)
    obtain ⟨g0, g1, g2, g3, g4⟩ := lnC_get ps i hi
    have hs := (hsh _ (getD_in (z := zQ) hi)).1
    unfold lnF
    rw [getD_toLn ps i hi]
    rcases (by omega : d = 0 ∨ d = 1 ∨ d = 2 ∨ d = 3 ∨ d = 4) with rfl | rfl | rfl | rfl | rfl
    · exact g0
    · exact g1
    · exact g2
    · exact g3
    · rw [g4, hs]; rfl
  · obtain ⟨y, hy, rfl⟩ := List.mem_map.1 hz
    obtain ⟨h1, h2, h3⟩ := hn y hy
    exact ⟨h1, ⟨h2.op, h2.a, h2.b, (hsh y hy).2.1⟩, h3⟩
  · obtain ⟨y, hy, rfl⟩ := List.mem_map.1 hz
    exact (hsh y hy).2.2
/-- The lines that are built: they lie in memory of the call's own. -/
structure NmSt (W wr : World) (v : Value) (ps : List (Int × In × Value)) : Prop where
  row : LnRow wr W.heap.size v ps
  bel : Below W.heap.size W wr
theorem NmSt.below {W w w' : World} {v : Value} {ps : List (Int × In × Value)} (h : NmSt W w v ps) (hb : Below w.heap.size w w') : NmSt W w' v ps := ⟨h.row.below hb, h.bel.trans (hb.mono h.bel.size)⟩
theorem NmSt.put {W w wa wz : World} {v v' : Value} {ps : List (Int × In × Value)} (h : NmSt W w v ps) (ha : Below w.heap.size w wa) (y : Int × In × Value) {m : Nat} (hm : m = ps.length) (q1 : Rw wz 56 5 v' (m + 1) (lnC ps ++ [Value.int .i64 y.1, .int .u8 (y.2.1.op : Int), .int .i64 y.2.1.a, .int .i64 y.2.1.b, y.2.2])) (q2 : wa.grownBy wz v.ownBlock) (q3 : v'.ownBlock = v.ownBlock ∨ v'.ownBlock = some wa.heap.size)
    (hy : Rw wa 51 2 y.2.2 y.2.1.arms.length (armC y.2.1.arms)) (hyn : ∀ b, y.2.2.ownBlock = some b → W.heap.size ≤ b) : NmSt W wz v' (ps ++ [y]) := by
  subst hm
  have hA := h.below ha
  have hro := hA.row.row
  have er : ∀ {size : Nat} {e : TypeId} {v : Value} {n : Nat} {xs : List Value}, Rw wa e size v n xs → e ≠ 56 → Rw wz e size v n xs := fun {size e v n xs} k he => k.grown q2 (fun j ej e2 => k.ne2 hro he j ej e2.symm)
  refine ⟨⟨?_, fun b e => ?_, fun z hz => ?_⟩, hA.bel.grown q2 hA.bel.size (fun k e => h.row.new k e)⟩
  · rw [List.length_append, lnC_snoc]; exact q1
  · rcases q3 with q3 | q3
    · exact h.row.new b (by rw [← q3]; exact e)
    · rw [q3] at e; cases e; exact hA.bel.size
  · rcases List.mem_append.1 hz with hz | hz
    · exact ⟨er (hA.row.arms z hz).1 (by decide), (h.row.arms z hz).2⟩
    · obtain rfl := List.mem_singleton.1 hz
      exact ⟨er hy (by decide), hyn⟩
theorem NmSt.set {W w : World} {v : Value} {ps : List (Int × In × Value)} (h : NmSt W w v ps) {g : Nat} {cs : Array Value} {t : TypeId} (ho : Own w g cs t) (h1 : t ≠ 56) (h2 : t ≠ 51) (hg : W.heap.size ≤ g) (i : Nat) (u : Value) : NmSt W (w.setCell ⟨g, i, none⟩ u) v ps :=
  ⟨⟨h.row.row.set (h.row.row.ne ho h1.symm) i u, h.row.new, fun y hy => ⟨(h.row.arms y hy).1.set ((h.row.arms y hy).1.ne ho h2.symm) i u, (h.row.arms y hy).2⟩⟩, below_fr h.bel ((Fr.refl (fun k => k = g) w).set (g := g) (.inr rfl) i u) (fun k q => by omega)⟩
theorem NmSt.start (W w : World) (h : Below W.heap.size W w) : NmSt W w (.slice none 0 0) [] := ⟨LnRow.nil _ _, h⟩
/-- What has been done of the lines. -/
structure NmK (c : Int) (xs : List LnP) (k : Nat) (ps : List (Int × In × Value)) : Prop where
  eq : ps.map qL = ((xs.take k).map LnP.l).map (renY c)
  lab : ∀ y ∈ xs.take k, y.x.op = 0 → y.lab ≤ 1048576
theorem NmK.len {c : Int} {xs : List LnP} {k : Nat} {ps : List (Int × In × Value)} (h : NmK c xs k ps) : ps.length ≤ xs.length := by
  have := congrArg List.length h.eq
  simp only [List.length_map, List.length_take] at this
  omega
theorem NmK.next {c : Int} {xs : List LnP} {k : Nat} {ps : List (Int × In × Value)} (h : NmK c xs k ps) (hk : k < xs.length) (y : Int × In × Value) (hy : qL y = renY c (xs.getD k zLn).l) (hl : (xs.getD k zLn).x.op = 0 → (xs.getD k zLn).lab ≤ 1048576) : NmK c xs (k + 1) (ps ++ [y]) := by
  constructor
  · rw [take_l hk, List.map_append, List.map_append, h.eq]
    simp [hy]
  · intro z hz
    rw [List.take_add_one, List.getElem?_eq_getElem hk] at hz
    have e : xs.getD k zLn = xs[k] := by simp [List.getD, hk]
    rcases List.mem_append.1 hz with q | q
    · exact h.lab z q
    · simp only [Option.toList_some, List.mem_singleton] at q
      subst q
      rw [e] at hl
      exact hl
end Go.Proofs.YtkmmnocooibljaaGreatDoor
namespace Go.Proofs.YtkmmnocooibljaaGreatDoor
open Go.RowKit Go.Maps
set_option linter.unusedVariables false
set_option linter.unusedSimpArgs false

theorem codr_sh {w : World} {r : List Nat × Nat} {e : Ending} {w' : World} (h : CodR w r e w') : ∃ ao cp, e = .returned (.tuple #[.slice ao r.1.length cp, .int .i64 (r.2 : Int)]) ∧ Rw w' 5 1 (.slice ao r.1.length cp) r.1.length (nums r.1) ∧ Below w.heap.size w w' := by
  obtain ⟨v, rfl, h1, h2, h3⟩ := h
  obtain ⟨ao, cp, rfl, -⟩ := h1.shape
  exact ⟨ao, cp, rfl, h1, h3⟩
theorem conv_rw {w : World} {ao : Option Addr} {L cp : Nat} {xs : List Nat} (hL : xs.length = L) (h : Rw w 5 1 (.slice ao L cp) L (nums xs)) (hb : ∀ c ∈ xs, c < 256) (hm : xs.length ≤ 9223372036854775807) : (convert 30 9 (.slice ao L cp)).run Tryz.prog w = .ok (.string (strN xs)) w := by
  subst hL
  refine conv_any ?_ rfl
  by_cases h0 : xs = []
  · exact ⟨hb, hm, .inl h0⟩
  · obtain ⟨g, cap, cur, e, -⟩ := h.block (List.length_pos_iff.2 h0)
    cases e
    exact lies_row rfl h hb hm
theorem codeA_small {ys : List (Int × In)} {st : List (Int × Int) × Int} (h : layoutL ys = .inr st) (ho : ∀ y ∈ ys, y.2.op < 256) : (∀ c ∈ (codeA ys).1, c < 256) ∧ (codeA ys).1.length ≤ 65536 := by
  have e : codeA ys = if 65536 < st.2 then ([], 3) else (codeB (codeI (gOf st.1) ys), 0) := by unfold codeA; rw [h]
  rw [e]
  split
  · exact ⟨fun c q => by simp at q, by simp⟩
  · rename_i hb
    refine ⟨fun c q => ?_, ?_⟩
    · obtain ⟨l, hl1, q⟩ := List.mem_flatten.1 q
      obtain ⟨x, hx, rfl⟩ := List.mem_map.1 hl1
      obtain ⟨z, hz, rfl⟩ := codeI_mem hx
      exact enc_byte _ (by rw [(atI_arms _ _).1]; exact ho z hz) c q
    · simp only
      rw [code_len h hb]
      have := (layoutL_inr h).1
      omega
theorem reachM_mem (H : List Int) (st : List (Int × In) × Nat) (p : Int) {z : Int × In} (hz : z ∈ (reachM H st p).1) : z ∈ st.1 ∨ z = ((st.2 : Int), zI) := by
  unfold reachM at hz
  split at hz
  · rcases List.mem_append.1 hz with q | q
    · exact .inl q
    · exact .inr (List.mem_singleton.1 q)
  · exact .inl hz
theorem fold_mem (H : List Int) (ys : List (In × Nat)) : ∀ (st : List (Int × In) × Nat) (z : Int × In), z ∈ (ys.foldl (stepM H) st).1 → z ∈ st.1 ∨ (∃ m : Nat, m ≤ st.2 + ys.length ∧ z = ((m : Int), zI)) ∨ ∃ y ∈ ys, z = (0, atI (numF H) y.1) := by
  induction ys with
  | nil => intro st z hz; exact .inl hz
  | cons y r ih =>
    intro st z hz
    rw [List.foldl_cons] at hz
    have hl := (reachM_len H st (y.2 : Int)).2
    rcases ih (stepM H st y) z hz with q | ⟨m, hm, q⟩ | ⟨x, hx, q⟩
    · unfold stepM at q
      rcases List.mem_append.1 q with q | q
      · rcases reachM_mem H st _ q with q | q
        · exact .inl q
        · exact .inr (.inl ⟨st.2, by simp, q⟩)
      · exact .inr (.inr ⟨y, by simp, List.mem_singleton.1 q⟩)
    · refine .inr (.inl ⟨m, ?_, q⟩)
      unfold stepM at hm
      simp only [List.length_cons] at hm ⊢
      omega
    · exact .inr (.inr ⟨x, by simp [hx], q⟩)
theorem linesM_mem (H : List Int) (ys : List (In × Nat)) (en : Int) {z : Int × In} (hz : z ∈ (linesM H ys en).1) : (∃ m : Nat, m ≤ ys.length ∧ z = ((m : Int), zI)) ∨ ∃ y ∈ ys, z = (0, atI (numF H) y.1) := by
  unfold linesM at hz
  rcases reachM_mem H _ _ hz with q | q
  · rcases fold_mem H ys _ z q with q | ⟨m, hm, q⟩ | q
    · cases q
    · exact .inl ⟨m, by simpa using hm, q⟩
    · exact .inr q
  · exact .inl ⟨_, (fold_len H ys).2, q⟩
theorem numF_n64 {H : List Int} (hH : H.length ≤ 100000000000) (t : Int) : N64 (numF H t) := by
  have := List.countP_le_length (p := fun x : Int => decide (x < t)) (l := H)
  unfold numF N64
  omega
end Go.Proofs.YtkmmnocooibljaaGreatDoor
namespace Go.Proofs.YtkmmnocooibljaaGreatDoor
open Go.RowKit Go.Maps
set_option linter.unusedVariables false
set_option linter.unusedSimpArgs false

theorem strict_len (M : Int) (H : List Int) (hs : H.Pairwise (· < ·)) : ∀ a : Int, (∀ y ∈ H, a ≤ y ∧ y ≤ M) → a ≤ M + 1 → (H.length : Int) ≤ M + 1 - a := by
  induction H with
  | nil => intro a _ h; simp; omega
  | cons b r ih =>
    intro a h1 h2
    obtain ⟨hb, hr⟩ := List.pairwise_cons.1 hs
    have h3 := h1 b (by simp)
    have := ih hr (b + 1) (fun y hy => by have := hb y hy; have := h1 y (by simp [hy]); omega) (by omega)
    rw [List.length_cons]
    omega
theorem atI_fix {g : Int → Int} {x : In} (h : ∀ t ∈ tgs x, g t = t) : atI g x = x := by
  unfold atI
  have : (tgs x).map g = tgs x := by
    conv => rhs; rw [← List.map_id (tgs x)]
    exact List.map_congr_left h
  rw [this, movX_self]
theorem plcs_ge (l : List In) : ∀ (a : Nat), ∀ q ∈ plcs l a, a ≤ q ∧ q ≤ a + szs l := by
  induction l with
  | nil => intro a q hq; simp [plcs] at hq
  | cons z l ih =>
    intro a q hq
    simp only [plcs, szs] at hq ⊢
    rcases List.mem_cons.1 hq with rfl | hq
    · omega
    · have := ih _ q hq; omega
/-- What is asked of instructions whose targets are places. -/
structure Plcd (il : List In) : Prop where
  ins : ∀ x ∈ il, x.op ≠ 0 ∧ x.size ≠ 0
  tgt : ∀ y ∈ headsL il, (∃ q ∈ plcs il 0, y = (q : Int)) ∨ y = (szs il : Int)
  len : szs il ≤ 1000000
def lnsOf (il : List In) : List (Int × In) × Nat := linesM (headsL il) (il.zip (plcs il 0)) (szs il : Int)
theorem placed_back {il : List In} (h : Plcd il) : (lnsOf il).2 = (headsL il).length ∧ layoutL (lnsOf il).1 = .inr (lH (headsL il) (headsL il).length, (szs il : Int)) ∧ codeI (gOf (lH (headsL il) (headsL il).length)) (lnsOf il).1 = il ∧ codeP (lnsOf il).1 0 = plcs il 0 := by
  have hs := headsL_strict il
  have hrg : ∀ y ∈ headsL il, 0 ≤ y ∧ y ≤ (szs il : Int) := fun y hy => by
    rcases h.tgt y hy with ⟨q, hq, rfl⟩ | rfl
    · have := plcs_ge il 0 q hq; omega
    · omega
  have hm : (headsL il).length ≤ 2147483647 := by
    have := strict_len (szs il) (headsL il) hs 0 hrg (by omega)
    have := h.len
    omega
  have h0 : At (headsL il) ([], 0) [] [] 0 := ⟨rfl, fun g => rfl, rfl, rfl⟩
  have hn0 : (([], 0) : List (Int × In) × Nat).2 = nB (headsL il) ((0 : Nat) : Int) := (nB_zero (fun y hy => (hrg y hy).1)).symm
  obtain ⟨h1, h2⟩ := At.all hs hm il ([], 0) [] [] 0 h.ins (fun y hy => by
    rcases h.tgt y hy with k | k
    · exact .inr (.inl k)
    · right; right; rw [k]; simp) h0 hn0
  simp only [List.nil_append, Nat.zero_add] at h1 h2
  obtain ⟨h3, h4⟩ := h1.reach hs hm h2
  have hE : nE (headsL il) (szs il : Int) = (headsL il).length := by
    unfold nE
    rw [List.countP_eq_length]
    intro y hy
    simpa using (hrg y hy).2
  have hgo : ∀ t ∈ headsL il, gOf (lH (headsL il) (headsL il).length) (numF (headsL il) t) = t := fun t ht => by
    obtain ⟨q1, q2⟩ := count_get hs ht
    rw [numF_nB]
    unfold gOf
    rw [lH_some _ _ _ q1, q2]
    rfl
  have hin : ∀ x ∈ il, ∀ t ∈ tgs x, t ∈ headsL il := fun x hx t ht => headsL_mem.2 (List.mem_flatten.2 ⟨_, List.mem_map.2 ⟨x, hx, rfl⟩, ht⟩)
  have e2 : (lnsOf il).2 = (headsL il).length := by unfold lnsOf linesM; rw [h4, hE]
  have e3 : At (headsL il) (lnsOf il) il (plcs il 0) (szs il) := h3
  refine ⟨e2, ?_, ?_, e3.plc⟩
  · unfold layoutL
    rw [e3.add]
    simp only
    rw [e2, if_pos]
    rw [List.all_eq_true]
    intro z hz
    unfold leadsB
    rcases linesM_mem _ _ _ hz with ⟨m, _, rfl⟩ | ⟨y, hy, rfl⟩
    · rfl
    · obtain ⟨y1, y2⟩ := y
      have hy1 := (List.of_mem_zip hy).1
      simp only
      rw [tgs_atI, List.all_eq_true]
      intro u hu
      obtain ⟨t, ht, rfl⟩ := List.mem_map.1 hu
      obtain ⟨q1, q2⟩ := count_get hs (hin _ hy1 t ht)
      rw [numF_nB, lH_some _ _ _ q1]
      rfl
  · rw [e3.code]
    conv => rhs; rw [← List.map_id il]
    refine List.map_congr_left fun x hx => ?_
    rw [atI_atI]
    exact atI_fix fun t ht => hgo t (hin x hx t ht)
theorem placed_code {il : List In} (h : Plcd il) (hb : szs il ≤ 65536) : codeA (lnsOf il).1 = (codeB il, 0) ∧ normL (lnsOf il).1 = ((lnsOf il).1, 0) := by
  obtain ⟨h1, h2, h3, h4⟩ := placed_back h
  unfold codeA normL
  rw [h2]
  simp only
  rw [if_neg (by omega), h3]
  refine ⟨rfl, ?_⟩
  unfold normC
  rw [h3, h4]
  rfl
theorem codeI_mem2 {g : Int → Int} {ys : List (Int × In)} {x : In} (h : x ∈ codeI g ys) : ∃ y ∈ ys, y.2.op ≠ 0 ∧ x = atI g y.2 := by
  induction ys with
  | nil => cases h
  | cons y ys ih =>
    simp only [codeI] at h
    split at h
    · obtain ⟨z, hz, e⟩ := ih h
      exact ⟨z, List.mem_cons_of_mem _ hz, e⟩
    · rename_i h0
      rcases List.mem_cons.1 h with q | q
      · exact ⟨y, List.mem_cons_self .., h0, q⟩
      · obtain ⟨z, hz, e⟩ := ih q
        exact ⟨z, List.mem_cons_of_mem _ hz, e⟩
theorem codeP_plcs {g : Int → Int} {ys : List (Int × In)} (h : ∀ y ∈ ys, y.2.op ≠ 0 → (atI g y.2).size = y.2.size) : ∀ a, codeP ys a = plcs (codeI g ys) a := by
  induction ys with
  | nil => intro a; rfl
  | cons y r ih =>
    intro a
    have ih := ih (fun z hz => h z (by simp [hz]))
    simp only [codeP, codeI]
    by_cases h0 : y.2.op = 0
    · rw [if_pos h0, if_pos h0]; exact ih a
    · rw [if_neg h0, if_neg h0]
      simp only [plcs]
      rw [h y (by simp) h0, ih]
theorem sizeL_szs {g : Int → Int} {ys : List (Int × In)} (h : ∀ y ∈ ys, y.2.op ≠ 0 → (atI g y.2).size = y.2.size) : sizeL ys = szs (codeI g ys) := by
  induction ys with
  | nil => rfl
  | cons y r ih =>
    have ih := ih (fun z hz => h z (by simp [hz]))
    simp only [sizeL, codeI]
    by_cases h0 : y.2.op = 0
    · rw [if_pos h0, if_pos h0, ih]; omega
    · rw [if_neg h0, if_neg h0]
      simp only [szs]
      rw [h y (by simp) h0, ih]
theorem addsL_end (ys : List (Int × In)) : ∀ (st st' : List (Int × Int) × Int) (a : Nat), st.2 = (a : Int) → addsL ys st = .inr st' → st'.2 = ((a + sizeL ys : Nat) : Int) ∧ ((∃ q ∈ codeP ys a, (q : Int) = st.2) ∨ st.2 = st'.2) ∧ ∀ q ∈ st'.1, q ∈ st.1 ∨ (∃ k ∈ codeP ys a, q.2 = (k : Int)) ∨ q.2 = st'.2 := by
  induction ys with
  | nil => intro st st' a ha h; cases h; exact ⟨by rw [ha]; simp [sizeL], .inr rfl, fun q hq => .inl hq⟩
  | cons y r ih =>
    intro st st' a ha h
    simp only [addsL] at h
    cases hq : addL st y with
    | inl e => rw [hq] at h; cases h
    | inr s1 =>
      rw [hq] at h
      simp only at h
      obtain ⟨a1, a2⟩ := addL_in hq
      simp only [codeP, sizeL]
      by_cases h0 : y.2.op = 0
      · obtain ⟨b1, b2, b3, b4, b5⟩ := a2 h0
        rw [if_pos h0, if_pos h0]
        obtain ⟨i1, i2, i3⟩ := ih s1 st' a (by rw [b5]; exact ha) h
        have hs : s1.2 = st.2 := by rw [b5]
        rw [hs] at i2
        refine ⟨by rw [i1]; simp, i2, fun q hq => ?_⟩
        rcases i3 q hq with k | k
        · rw [b5] at k
          rcases List.mem_append.1 k with k | k
          · exact .inl k
          · obtain rfl := List.mem_singleton.1 k
            rcases i2 with ⟨u, hu, e⟩ | e
            · exact .inr (.inl ⟨u, hu, e.symm⟩)
            · exact .inr (.inr e)
        · exact .inr k
      · obtain ⟨b1, b2, b3⟩ := a1 h0
        rw [if_neg h0, if_neg h0]
        obtain ⟨i1, i2, i3⟩ := ih s1 st' (a + y.2.size) (by rw [b3]; simp only; rw [ha]; simp) h
        refine ⟨by rw [i1]; congr 1; omega, .inl ⟨a, by simp, ha.symm⟩, fun q hq => ?_⟩
        rcases i3 q hq with k | ⟨u, hu, e⟩ | k
        · rw [b3] at k; exact .inl k
        · exact .inr (.inl ⟨u, by simp [hu], e⟩)
        · exact .inr (.inr k)
/-- The instructions of lines that may be, placed. -/
theorem code_placed {ys : List (Int × In)} {st : List (Int × Int) × Int} (h : layoutL ys = .inr st) (hb : ¬ 65536 < st.2) : Plcd (codeI (gOf st.1) ys) ∧ codeP ys 0 = plcs (codeI (gOf st.1) ys) 0 ∧ st.2 = (szs (codeI (gOf st.1) ys) : Int) ∧ ∀ x ∈ codeI (gOf st.1) ys, x.ok = true := by
  have hg := gOf_range h hb
  obtain ⟨h1, h2, h3, h4⟩ := layoutL_may h
  have hsz : ∀ y ∈ ys, y.2.op ≠ 0 → (atI (gOf st.1) y.2).size = y.2.size := fun y hy h0 => atI_size_eq ((h3 y hy).2 h0).2 hg
  obtain ⟨e1, -, e3⟩ := addsL_end ys ([], 0) st 0 rfl h1
  have es := sizeL_szs hsz
  have ep := codeP_plcs hsz 0
  have e0 : st.2 = (szs (codeI (gOf st.1) ys) : Int) := by rw [e1, es]; simp
  refine ⟨⟨fun x hx => ?_, fun y hy => ?_, by omega⟩, ep, e0, fun x hx => ?_⟩
  · obtain ⟨y, hy, h0, rfl⟩ := codeI_mem2 hx
    rw [(atI_arms _ _).1, hsz y hy h0]
    exact ⟨h0, ((h3 y hy).2 h0).2⟩
  · obtain ⟨l, hl, ht⟩ := List.mem_flatten.1 (headsL_mem.1 hy)
    obtain ⟨x, hx, rfl⟩ := List.mem_map.1 hl
    obtain ⟨z, hz, h0, rfl⟩ := codeI_mem2 hx
    rw [tgs_atI] at ht
    obtain ⟨t, ht2, rfl⟩ := List.mem_map.1 ht
    have := h2 z hz
    unfold leadsB at this
    rw [List.all_eq_true] at this
    have := this t ht2
    cases hf : plF st.1 t with
    | none => rw [hf] at this; cases this
    | some p =>
      have eg : gOf st.1 t = p := by unfold gOf; rw [hf]; rfl
      rw [eg]
      obtain ⟨q, hq, rfl⟩ := plF_mem hf
      rcases e3 q hq with k | ⟨u, hu, e⟩ | e
      · cases k
      · rw [ep] at hu; exact .inl ⟨u, hu, e⟩
      · rw [e, e0]; exact .inr rfl
  · obtain ⟨y, hy, h0, rfl⟩ := codeI_mem2 hx
    exact (atI_ok (size_ok ((h3 y hy).2 h0).2) hg).1
theorem ok_pos {x : In} (h : x.ok = true) : x.op ≠ 0 ∧ x.size ≠ 0 := by
  obtain ⟨l, e1, e2⟩ := ok_size h
  have := lay_ok e1
  refine ⟨by omega, ?_⟩
  rw [e2]
  unfold Lay.size
  omega
theorem codeB_szs (il : List In) : (codeB il).length = szs il := by
  induction il with
  | nil => rfl
  | cons x r ih =>
    have e : codeB (x :: r) = x.enc ++ codeB r := by simp [codeB]
    rw [e, List.length_append, enc_length, ih]; rfl
theorem allR_enc (xs : List Nat) (il : List In) : ∀ (f p : Nat), (∀ x ∈ il, x.ok = true) → xs.drop p = codeB il → p ≤ xs.length → xs.length < p + f + 1 → allR xs f p = (il, plcs il p, 0) := by
  induction il with
  | nil =>
    intro f p _ hd hp hf
    have hl : xs.length ≤ p := by
      have := congrArg List.length hd
      simp [codeB] at this
      omega
    cases f with
    | zero => rfl
    | succ f => unfold allR; rw [if_pos hl]; rfl
  | cons x r ih =>
    intro f p hok hd hp hf
    have e : codeB (x :: r) = x.enc ++ codeB r := by simp [codeB]
    rw [e] at hd
    have hx := hok x (by simp)
    have hpos := (ok_pos hx).2
    have hlen := congrArg List.length hd
    rw [List.length_drop, List.length_append, enc_length] at hlen
    cases f with
    | zero => omega
    | succ f =>
      unfold allR
      rw [if_neg (by omega)]
      simp only
      rw [dec_enc x hx xs (codeB r) p hd]
      simp only
      rw [if_neg (by simp), ih f (p + x.size) (fun z hz => hok z (by simp [hz])) (by
        rw [← List.drop_drop, hd, ← enc_length, List.drop_left]) (by omega) (by omega)]
      simp [plcs]
theorem allD_enc {il : List In} (h : ∀ x ∈ il, x.ok = true) : allD (codeB il) = (il, plcs il 0, 0) := allR_enc _ il _ 0 h rfl (Nat.zero_le _) (by omega)
theorem allR_dec (xs : List Nat) (hb : ∀ c ∈ xs, c < 256) : ∀ (f p : Nat) (il : List In) (pl : List Nat), allR xs f p = (il, pl, 0) → p ≤ xs.length → xs.length ≤ p + f → xs.drop p = codeB il ∧ pl = plcs il p ∧ ∀ x ∈ il, x.ok = true ∧ x.op < 256 := by
  intro f
  induction f with
  | zero =>
    intro p il pl h hp hf
    cases h
    refine ⟨by rw [List.drop_eq_nil_of_le (by omega)]; rfl, rfl, fun x hx => by cases hx⟩
  | succ f ih =>
    intro p il pl h hp hf
    unfold allR at h
    by_cases hl : xs.length ≤ p
    · rw [if_pos hl] at h
      cases h
      exact ⟨by rw [List.drop_eq_nil_of_le hl]; rfl, rfl, fun x hx => by cases hx⟩
    · rw [if_neg hl] at h
      simp only at h
      obtain ⟨⟨x, q, er⟩, hd⟩ : ∃ d, dec xs p = d := ⟨_, rfl⟩
      rw [hd] at h
      simp only at h
      by_cases he : er = 0
      · subst he
        rw [if_neg (by simp)] at h
        obtain ⟨d1, d2, d3, d4, d5, d6, d7⟩ := dec_forth xs hb p x q hd
        obtain ⟨⟨il2, pl2, er2⟩, hr⟩ : ∃ d, allR xs f q = d := ⟨_, rfl⟩
        rw [hr] at h
        simp only at h
        by_cases he2 : er2 = 0
        · subst he2
          rw [if_neg (by simp)] at h
          cases h
          obtain ⟨i1, i2, i3⟩ := ih q il2 pl2 hr d3 (by omega)
          have hq : q = p + x.size := by omega
          refine ⟨?_, ?_, fun z hz => ?_⟩
          · have e : codeB (x :: il2) = x.enc ++ codeB il2 := by simp [codeB]
            rw [e, d5, ← i1]
            simp only [Int.toNat_natCast]
            rw [show xs.drop q = (xs.drop p).drop (q - p) by rw [List.drop_drop]; congr 1; omega]
            exact (List.take_append_drop _ _).symm
          · simp only [plcs]
            rw [i2, hq]
          · rcases List.mem_cons.1 hz with rfl | hz
            · exact ⟨d4, d7⟩
            · exact i3 z hz
        · rw [if_pos he2] at h; cases h; exact absurd rfl he2
      · rw [if_pos he] at h; cases h; exact absurd rfl he
/-- What Lines answers. -/
def linesA (xs : List Nat) : List (Int × In) × Nat :=
  if 65536 < xs.length then ([], 3) else if (allD xs).2.2 ≠ 0 then ([], (allD xs).2.2) else
    if (linesM (headsL (allD xs).1) ((allD xs).1.zip (allD xs).2.1) (xs.length : Int)).2 = (headsL (allD xs).1).length then ((linesM (headsL (allD xs).1) ((allD xs).1.zip (allD xs).2.1) (xs.length : Int)).1, 0) else ([], 190)
theorem linesA_enc {il : List In} (h : Plcd il) (hok : ∀ x ∈ il, x.ok = true) (hb : szs il ≤ 65536) : linesA (codeB il) = ((lnsOf il).1, 0) := by
  unfold linesA
  rw [codeB_szs, if_neg (by omega), allD_enc hok]
  simp only
  rw [if_neg (by simp)]
  exact if_pos (placed_back h).1
/-- THE CODE OF LINES, AND BACK. -/
theorem back_lines {ys : List (Int × In)} {st : List (Int × Int) × Int} (h : layoutL ys = .inr st) (hb : ¬ 65536 < st.2) : ∃ n, normL ys = (n, 0) ∧ linesA (codeA ys).1 = (n, 0) ∧ normL n = (n, 0) ∧ codeA n = ((codeA ys).1, 0) := by
  obtain ⟨h1, h2, h3, h4⟩ := code_placed h hb
  have hs : szs (codeI (gOf st.1) ys) ≤ 65536 := by omega
  obtain ⟨c1, c2⟩ := placed_code h1 hs
  have e1 : codeA ys = (codeB (codeI (gOf st.1) ys), 0) := by unfold codeA; rw [h]; simp only; rw [if_neg hb]
  refine ⟨(lnsOf (codeI (gOf st.1) ys)).1, ?_, ?_, c2, ?_⟩
  · unfold normL
    rw [h]
    simp only
    unfold normC lnsOf
    rw [h2, ← h3]
  · rw [e1]; exact linesA_enc h1 h4 hs
  · rw [e1]; exact c1
theorem fold_hit (H : List Int) (ys : List (In × Nat)) : ∀ (st : List (Int × In) × Nat) (j : Nat), st.2 ≤ j → j < (ys.foldl (stepM H) st).2 → ∃ y ∈ ys, H.getD j 0 = (y.2 : Int) := by
  induction ys with
  | nil => intro st j h1 h2; simp only [List.foldl_nil] at h2; omega
  | cons y r ih =>
    intro st j h1 h2
    rw [List.foldl_cons] at h2
    by_cases hj : (stepM H st y).2 ≤ j
    · obtain ⟨z, hz, e⟩ := ih _ j hj h2
      exact ⟨z, by simp [hz], e⟩
    · refine ⟨y, by simp, ?_⟩
      unfold stepM reachM at hj
      simp only at hj
      split at hj
      · rename_i hc
        simp only at hj
        obtain rfl : j = st.2 := by omega
        exact hc.2
      · omega
theorem lines_hit {H : List Int} {ys : List (In × Nat)} {en : Int} (h : (linesM H ys en).2 = H.length) : ∀ y ∈ H, (∃ q ∈ ys, y = (q.2 : Int)) ∨ y = en := by
  intro y hy
  obtain ⟨j, hj, e⟩ := List.mem_iff_getElem.1 hy
  have e2 : H.getD j 0 = y := by simp [List.getD, hj, e]
  rw [← h] at hj
  unfold linesM at hj
  by_cases hq : j < (ys.foldl (stepM H) ([], 0)).2
  · obtain ⟨z, hz, e3⟩ := fold_hit H ys ([], 0) j (Nat.zero_le _) hq
    exact .inl ⟨z, hz, by rw [← e2]; exact e3⟩
  · right
    unfold reachM at hj
    split at hj
    · rename_i hc
      simp only at hj
      obtain rfl : j = (ys.foldl (stepM H) ([], 0)).2 := by omega
      rw [← e2]; exact hc.2
    · omega
/-- THE LINES OF A CODE, AND BACK. -/
theorem back_code {xs : List Nat} (hb : ∀ c ∈ xs, c < 256) {m : List (Int × In)} (h : linesA xs = (m, 0)) : codeA m = (xs, 0) ∧ (∃ st, layoutL m = .inr st) := by
  unfold linesA at h
  by_cases h1 : 65536 < xs.length
  · rw [if_pos h1] at h; cases h
  · rw [if_neg h1] at h
    by_cases h2 : (allD xs).2.2 ≠ 0
    · rw [if_pos h2] at h
      have := congrArg Prod.snd h
      exact absurd this h2
    · rw [if_neg h2] at h
      split at h
      · rename_i h3
        have hd : allR xs xs.length 0 = ((allD xs).1, (allD xs).2.1, 0) := by
          have e := Classical.not_not.1 h2
          show allD xs = _
          exact Prod.ext rfl (Prod.ext rfl e)
        obtain ⟨d1, d2, d3⟩ := allR_dec xs hb _ 0 _ _ hd (Nat.zero_le _) (by omega)
        rw [List.drop_zero] at d1
        have hl : xs.length = szs (allD xs).1 := by
          have := congrArg List.length d1
          rw [codeB_szs] at this
          exact this
        rw [d2, hl] at h h3
        have hP : Plcd (allD xs).1 := by
          refine ⟨fun x hx => ok_pos (d3 x hx).1, fun y hy => ?_, by omega⟩
          rcases lines_hit h3 y hy with ⟨q, hq, e⟩ | e
          · exact .inl ⟨q.2, (List.of_mem_zip (show (q.1, q.2) ∈ _ from hq)).2, e⟩
          · exact .inr e
        have hm : (lnsOf (allD xs).1).1 = m := congrArg Prod.fst h
        rw [← hm]
        exact ⟨by rw [(placed_code hP (by omega)).1, ← d1], ⟨_, (placed_back hP).2.1⟩⟩
      · cases h
end Go.Proofs.YtkmmnocooibljaaGreatDoor
namespace Go.Proofs.YtkmmnocooibljaaGreatDoor
open Go.ChangeShapes Go.WideShapes Go.ChangeAt Go.RowKit Go.Deep
set_option linter.unusedVariables false

/-- Bytes that came in. -/
structure BytesAt (w : World) (ao : Option Addr) (cap : Nat) (xs : List Nat) : Prop where
  lies : Lies w ao xs
  none : ao = none → cap = 0
  le : xs.length ≤ cap
  max : cap ≤ maxLen
set_option maxRecDepth 100000 in
theorem trod_bytes {H : Type} {enc : TypeId × Value → H} {W : World} {v : Value} {fuel : Nat} {y : DataW H × List MemPlace} (h : DataW.trod enc Tryz.prog W 0 (fun _ => true) true fuel 30 [v] = some y) :
    ∃ ao xs cap, v = .slice ao xs.length cap ∧ BytesAt W ao cap xs := by
  rcases open_slice Tryz.underlying30 h with ⟨e, _⟩ | ⟨a, len, cap, m, n, D, Pl, e, hb, hl, hm, hmm, _, hx⟩
  · simp at e
    subst e
    exact ⟨none, [], 0, rfl, ⟨by simp, by simp, .inl rfl⟩, fun _ => rfl, Nat.le_refl _, by unfold maxLen; omega⟩
  · simp at e
    subst e
    simp only [if_true] at hmm
    subst hmm
    have each : ∀ i, i < len → ∃ x : Nat, W.cell? (a.add i) = some (.int .u8 (x : Int)) ∧ x < 256 := by
      intro i hi
      obtain ⟨cs, h1, h2⟩ := hx i (by omega)
      rw [cellsU8, Nat.mul_one] at h1
      obtain ⟨_, hlen, hcell⟩ := World.cells?_some h1
      obtain ⟨x, rfl, _, hw⟩ := DataW.trod_int Tryz.underlying5 h2
      have hb2 := wf_u8 hw
      obtain ⟨z, rfl⟩ := Int.eq_ofNat_of_zero_le hb2.1
      have e0 := hcell 0 (by omega)
      rw [add_add] at e0
      exact ⟨z, by simpa using e0, by omega⟩
    obtain ⟨f, hf⟩ := @choose_lt Nat ⟨0⟩ _ _ each
    have hlen : ((List.range len).map f).length = len := by simp
    refine ⟨some a, (List.range len).map f, m, by rw [hlen], ⟨?_, by rw [hlen]; unfold maxLen at hm; omega, ?_⟩, (fun e => by cases e), by rw [hlen]; exact hl, hm⟩
    · intro s hs
      obtain ⟨i, hi, rfl⟩ := List.mem_map.1 hs
      exact (hf i (List.mem_range.1 hi)).2
    · by_cases h0 : len = 0
      · left; rw [h0]; rfl
      · right
        obtain ⟨b, o, spot⟩ := a
        have c0 := (hf 0 (by omega)).1
        have hs : spot = none := by simpa [Addr.add] using World.cell?_spot c0
        subst hs
        refine ⟨b, o, rfl, fun i hi => ?_⟩
        rw [hlen] at hi
        have hd : ((List.range len).map f).getD i 0 = f i := by simp [List.getD, hi]
        rw [hd, ← add_lit]
        exact (hf i hi).1
set_option maxRecDepth 100000 in
theorem open_bytes {H : Type} {enc : TypeId × Value → H} {W : World} {base : Nat} {v : Value} {d : DataW H} {ps : List MemPlace} {r : Reach} (hv : Value.okWide Tryz.prog W r base 30 v) (h : DataW.Trod enc Tryz.prog W 0 (fun _ => true) true 30 v d ps) :
    ∃ ao xs cap, v = .slice ao xs.length cap ∧ BytesAt W ao cap xs := by
  obtain ⟨a0, len, cap, rfl⟩ := okWide_slice Tryz.underlying30 hv
  obtain ⟨fuel, h⟩ := h
  exact trod_bytes h
end Go.Proofs.YtkmmnocooibljaaGreatDoor
