/-
  CONTRACT of what goes through a switch.
-/
import Derived.Test.YtepadfcjjcionaaGreatDoorAr
namespace Go.Proofs.YtepadfcjjcionaaGreatDoor
open Go.RowKit
set_option linter.unusedVariables false

def budL : List Tm → Nat
  | [] => 0
  | t :: ts => bud t + 2 + budL ts
theorem budL_drop : ∀ (ts : List Tm) (j : Nat) (u : Tm), ts[j]? = some u → budL (ts.drop j) = bud u + 2 + budL (ts.drop (j + 1)) := by
  intro ts
  induction ts with
  | nil => intro j u h; simp at h
  | cons t ts ih =>
    intro j u h
    cases j with
    | zero => cases h; simp [budL]
    | succ j => simpa using ih j u (by simpa using h)
theorem arm_drop (f : Tm → Bool → Out) (n : Int) (c : Bool) : ∀ (ts : List Tm) (j : Nat) (u : Tm), ts[j]? = some u → armF f n c (ts.drop j) = ⟨((f u c).e || ((f u c).w n).1) || (armF f n c (ts.drop (j + 1))).e, orW (butW (f u c).w n) (armF f n c (ts.drop (j + 1))).w, (f u c).y + (armF f n c (ts.drop (j + 1))).y, (f u c).z + (armF f n c (ts.drop (j + 1))).z⟩ := by
  intro ts
  induction ts with
  | nil => intro j u h; simp at h
  | cons t ts ih =>
    intro j u h
    cases j with
    | zero => cases h; simp [armF]
    | succ j => simpa using ih j u (by simpa using h)

def wtL : List Tm → Nat
  | [] => 0
  | t :: ts => wt t + wtL ts
theorem wtL_drop : ∀ (ts : List Tm) (j : Nat) (u : Tm), ts[j]? = some u → wtL (ts.drop j) = wt u + wtL (ts.drop (j + 1)) := by
  intro ts
  induction ts with
  | nil => intro j u h; simp at h
  | cons t ts ih =>
    intro j u h
    cases j with
    | zero => cases h; simp [wtL]
    | succ j => simpa using ih j u (by simpa using h)
theorem wt_pos (t : Tm) : 1 ≤ wt t := by
  unfold wt
  split
  · exact Nat.le_refl _
  · rw [cnt_parts]; omega

structure ChRel (N : Nat) (w : World) (R M B : Nat) (A : Ways) (y z k : Nat) (cells : Array Value) (n : Int) (c : Bool) (ts : List Tm) (v : Value) (xs : List Value) (base m g : Nat) (bv iv : Value) (wr : World) : Prop where
  ex : ∃ (j : Nat) (b : Bool) (pw : Ways) (py pz pk : Nat), j + g = m ∧ bv = .bool b ∧ iv = .int .i64 (j : Int) ∧ TourAt wr R M B (orW A pw) (y + py) (z + pz) (k + pk) ∧
    py + pz + pk + 100 * wtL (ts.drop j) ≤ 100 * wtL ts ∧ pk + budL (ts.drop j) = budL ts ∧
    (armF (walkF N) n c ts).e = (b || (armF (walkF N) n c (ts.drop j)).e) ∧ (armF (walkF N) n c ts).w = orW pw (armF (walkF N) n c (ts.drop j)).w ∧ (armF (walkF N) n c ts).y = py + (armF (walkF N) n c (ts.drop j)).y ∧ (armF (walkF N) n c ts).z = pz + (armF (walkF N) n c (ts.drop j)).z
  own : Own wr w.heap.size cells 24
  kt : Kt R M w wr
  row : wr.ownsRow base 24 5 v m xs

theorem row_kt {w w' : World} {b R M : Nat} {e : TypeId} {s : Nat} {v : Value} {n : Nat} {xs : List Value} (h : w.ownsRow b e s v n xs) (hk : Kt R M w w') (h1 : R < b) (h2 : M < b) : w'.ownsRow b e s v n xs := by
  obtain ⟨q, h3⟩ := h
  refine ⟨q, ?_⟩
  rcases h3 with h3 | ⟨g, cap, cur, rfl, q1, q2, q3⟩
  · exact .inl h3
  · exact .inr ⟨g, cap, cur, rfl, q1, (hk.block g (Array.getElem?_eq_some_iff.1 q2).1 (by omega) (by omega)).trans q2, q3⟩
theorem row_cells {w : World} {b : Nat} {v : Value} {n : Nat} {xs : List Value} (h : w.ownsRow b 24 5 v n xs) {j : Nat} (hj : j < n) : ∃ g cap, v = .slice (some ⟨g, 0, none⟩) n cap ∧ b ≤ g ∧ g < w.heap.size ∧ n ≤ cap ∧ cap ≤ maxLen ∧ ∀ i, i < n * 5 → w.cell? ⟨g, i, none⟩ = xs[i]? := by
  obtain ⟨h1, h2⟩ := h
  rcases h2 with ⟨_, h0⟩ | ⟨g, cap, cur, rfl, q1, q2, q3, q4, q5, q6⟩
  · omega
  · refine ⟨g, cap, rfl, q1, (Array.getElem?_eq_some_iff.1 q2).1, q3, q4, fun i hi => ?_⟩
    rw [cell_of_row _ _ _ _ _ _ q2, ← q6, List.getElem?_take, if_pos hi, Array.getElem?_toList]

set_option maxRecDepth 100000 in
set_option maxHeartbeats 4000000 in
theorem choice_as {N : Nat} (HS : Hid (StmtOk N)) (HL : Hid (OutLe N)) {w0 w : World} {R M B : Nat} {A : Ways} {y z k : Nat} {op ty n : Int} {tx : ByteArray} {ks : List Tm} {kv : Value} {c : Bool}
    (hE : ∀ u ∈ armsL ks, Enough N u) (hn : inr n) (hk : KidsR w0 kv ks) (hb : Below w0.heap.size w0 w) (hR : w0.heap.size ≤ R) (hM : w0.heap.size ≤ M) (hB : w0.heap.size ≤ B) (h : TourAt w R M B A y z k)
    (hc : wtL (armsL ks) ≤ cnt.cntL ks + 1) (hbl : budL (armsL ks) ≤ 8 * cnt.cntL ks + 8) (hlk : ks.length ≤ cnt.cntL ks)
    (hs : y + z + k + 100 * cnt.cntL ks + 1000 * N + 900 ≤ 1000000000) :
    Calls Tryz.prog 21 #[.pointer (some ⟨R, 0, none⟩), .agg #[.int .u8 op, .int .i64 ty, .int .i64 n, .string tx, kv], .bool c] w fun en w' => en = .returned (.bool (armF (walkF N) n c (armsL ks)).e) ∧
      TourAt w' R M B (orW A (armF (walkF N) n c (armsL ks)).w) (y + (armF (walkF N) n c (armsL ks)).y) (z + (armF (walkF N) n c (armsL ks)).z) (k + budL (armsL ks)) ∧ Kt R M w w' := by
  obtain ⟨ao, cap, rfl, hl1, hl2, _⟩ := id hk
  obtain ⟨m0, hm0⟩ : ∃ m, ks.length = m := ⟨_, rfl⟩
  have HK : Hid (KidsR w0 (.slice ao m0 cap) ks) := by rw [← hm0]; exact hk
  rw [hm0] at hl1 ⊢
  have hRl := h.1.lt
  have hMl := h.2.2.lt
  have HE : Hid (∀ u ∈ armsL ks, Enough N u) := hE
  have HB : Hid (Below w0.heap.size w0 w) := hb
  have HSS : Hid (y + z + k + 100 * cnt.cntL ks + 1000 * N + 900 ≤ 1000000000 ∧ wtL (armsL ks) ≤ cnt.cntL ks + 1 ∧ budL (armsL ks) ≤ 8 * cnt.cntL ks + 8) := ⟨hs, hc, hbl⟩
  have oB := Own.new w #[.int .u8 op, .int .i64 ty, .int .i64 n, .string tx, .slice ao m0 cap] 24
  have hW1 : Below w0.heap.size w0 (w.alloc (.cells #[.int .u8 op, .int .i64 ty, .int .i64 n, .string tx, .slice ao m0 cap] 24)) := hb.alloc hb.size _
  have ARM := arms_as (op := op) (ty := ty) (n := n) (tx := tx) HK.out hW1 (by omega) (by omega)
  have HT1 : Hid (TourAt (w.alloc (.cells #[.int .u8 op, .int .i64 ty, .int .i64 n, .string tx, .slice ao m0 cap] 24)) R M B A y z k) := h.alloc _
  obtain ⟨m, hm⟩ : ∃ m, (armsL ks).length = m := ⟨_, rfl⟩
  rw [hm] at ARM
  have HM : Hid ((armsL ks).length = m) := hm
  have hmb : m ≤ 1000000001 := by
    have h1 := armsP_len ks ks.length
    rw [← hm, armsP_all, List.length_append]
    simp only [List.length_cons, List.length_nil]
    omega
  clear hk hm h hE hb hs hc hbl hlk hm0
  go_enter Tryz.func21, Tryz.ntmps21
  go_wp2_with fail
  refine ARM.mono ?_
  rintro en w2 ⟨a2, c2, xs, rfl, hrow, hris, hb2⟩
  have HRI : Hid (RowIs w0 (armsL ks) xs) := hris
  have s1 : (w.alloc (.cells #[.int .u8 op, .int .i64 ty, .int .i64 n, .string tx, .slice ao m0 cap] 24)).heap.size = w.heap.size + 1 := Array.size_push ..
  rw [s1] at hrow
  have R0 : ChRel N w R M B A y z k #[.int .u8 op, .int .i64 ty, .int .i64 n, .string tx, .slice ao m0 cap] n c (armsL ks) (.slice a2 m c2) xs (w.heap.size + 1 + 1) m m (.bool false) (.int .i64 0) w2 := by
    refine ⟨⟨0, false, noW, 0, 0, 0, by omega, rfl, rfl, by rw [orW_no]; exact HT1.out.below hb2, by simp, by simp, by simp, by rw [no_orW]; rfl, by simp, by simp⟩, oB.below hb2, ((Kt.refl R M w).alloc _).trans (Kt.of hb2), hrow⟩
  clear ARM hris hrow hb2 oB hW1
  go_wp2_with fail
  go_loopg [7, 15] m (fun g bv iv wr => ChRel N w R M B A y z k #[.int .u8 op, .int .i64 ty, .int .i64 n, .string tx, .slice ao m0 cap] n c (armsL ks) (.slice a2 m c2) xs (w.heap.size + 1 + 1) m g bv iv wr)
  case atStart => exact R0
  case round =>
    clear R0
    obtain ⟨⟨j, b1, pw, py, pz, pk, hj, rfl, rfl, hT, hc1, hc2, he, hw, hy, hz⟩, o0, hK, hrow⟩ := hrel
    by_cases hlt : j < m
    · have i1 : (j : Int) < (m : Int) := by omega
      obtain ⟨u, hu⟩ : ∃ u, (armsL ks)[j]? = some u := ⟨(armsL ks)[j]'(by rw [HM.out]; exact hlt), List.getElem?_eq_getElem _⟩
      obtain ⟨uv, x0, x1, x2, x3, x4, hku, hin⟩ := HRI.out.get hu
      obtain ⟨g2, cap2, e2, hgb, hgl, hcp1, hcp2, hcell⟩ := row_cells hrow hlt
      cases e2
      obtain ⟨auk, cuk, rfl, hu1, hu2, _⟩ := id hku
      have f0 := (hcell (j * 5) (by omega)).trans x0
      have f1 := (hcell (j * 5 + 1) (by omega)).trans x1
      have f2 := (hcell (j * 5 + 2) (by omega)).trans x2
      have f3 := (hcell (j * 5 + 3) (by omega)).trans x3
      have f4 := (hcell (j * 5 + 4) (by omega)).trans x4
      unfold maxLen at hcp2
      have hcu := cnt_get hu
      have hcd := wtL_drop (armsL ks) j u hu
      have hbw := bud_wt u
      have hwp := wt_pos u
      have hbdr := budL_drop (armsL ks) j u hu
      have hbd := arm_drop (walkF N) n c (armsL ks) j u hu
      have hEu : Enough N u := HE.out u (List.mem_of_getElem? hu)
      obtain ⟨uo, ut, un, ux, us⟩ := u
      have hou := HL.out ⟨uo, ut, un, ux, us⟩ c hEu
      obtain ⟨hs', hs2, hs3⟩ := HSS.out
      have hbr : Below w0.heap.size w0 (wr.alloc (.cells #[.int .u8 uo, .int .i64 ut, .int .i64 un, .string ux, .slice auk us.length cuk] 24)) := kt_below HB.out (hK.alloc _) hR hM
      obtain ⟨o, ho⟩ : ∃ o, walkF N ⟨uo, ut, un, ux, us⟩ c = o := ⟨_, rfl⟩
      have CL := within_as HS ho hEu hin hn hku hbr hR hM hB (hT.alloc _) (by omega)
      rw [ho] at hbd hou
      have HO : Hid ((armF (walkF N) n c (armsL ks)).e = ((b1 || o.e || (o.w n).1) || (armF (walkF N) n c ((armsL ks).drop (j + 1))).e) ∧ (armF (walkF N) n c (armsL ks)).w = orW (orW pw (butW o.w n)) (armF (walkF N) n c ((armsL ks).drop (j + 1))).w ∧ (armF (walkF N) n c (armsL ks)).y = (py + o.y) + (armF (walkF N) n c ((armsL ks).drop (j + 1))).y ∧ (armF (walkF N) n c (armsL ks)).z = (pz + o.z) + (armF (walkF N) n c ((armsL ks).drop (j + 1))).z) := by
        rw [hbd] at he hw hy hz
        refine ⟨?_, ?_, ?_, ?_⟩
        · rw [he]; simp only [Bool.or_assoc]
        · rw [hw, orW_assoc]
        · rw [hy]; simp only; omega
        · rw [hz]; simp only; omega
      have HN : Hid (py + o.y + (pz + o.z) + (pk + (bud ⟨uo, ut, un, ux, us⟩ + 2)) + 100 * wtL ((armsL ks).drop (j + 1)) ≤ 100 * wtL (armsL ks) ∧ pk + (bud ⟨uo, ut, un, ux, us⟩ + 2) + budL ((armsL ks).drop (j + 1)) = budL (armsL ks) ∧ 1 ≤ gk ∧ j + 1 + (gk - 1) = m) := by
        unfold Hid; omega
      have ol0 := o0.lt
      have oA := o0.alloc (.cells #[.int .u8 uo, .int .i64 ut, .int .i64 un, .string ux, .slice auk us.length cuk] 24)
      obtain ⟨d0, d1, d2, d3, d4, _⟩ := oA.five
      have rowA := row_below hrow ((Below.refl _ _).alloc (Nat.le_refl _) (.cells #[.int .u8 uo, .int .i64 ut, .int .i64 un, .string ux, .slice auk us.length cuk] 24))
      have HKA : Hid (Kt R M w (wr.alloc (.cells #[.int .u8 uo, .int .i64 ut, .int .i64 un, .string ux, .slice auk us.length cuk] 24)) ∧ Own (wr.alloc (.cells #[.int .u8 uo, .int .i64 ut, .int .i64 un, .string ux, .slice auk us.length cuk] 24)) w.heap.size #[.int .u8 op, .int .i64 ty, .int .i64 n, .string tx, .slice ao m0 cap] 24 ∧ (wr.alloc (.cells #[.int .u8 uo, .int .i64 ut, .int .i64 un, .string ux, .slice auk us.length cuk] 24)).ownsRow (w.heap.size + 1 + 1) 24 5 (.slice (some ⟨g2, 0, none⟩) m c2) m xs) := ⟨hK.alloc _, oA, rowA⟩
      clear he hw hy hz hbd hbdr hc1 hc2 hcd hcu hbw hwp hou hs' hs2 hs3 hEu hku hT hu oA rowA hin hrow hbr x0 x1 x2 x3 x4 hcell ho
      simp only at f0 f1 f2 f3 f4
      have FIN : ∀ (w1 : World) (nb : Bool), nb = (b1 || o.e || (o.w n).1) → TourAt w1 R M B (orW (orW A pw) (butW o.w n)) (y + py + o.y) (z + pz + o.z) (k + pk + bud ⟨uo, ut, un, ux, us⟩ + 2) → Kt R M (wr.alloc (.cells #[.int .u8 uo, .int .i64 ut, .int .i64 un, .string ux, .slice auk us.length cuk] 24)) w1 → ChRel N w R M B A y z k #[.int .u8 op, .int .i64 ty, .int .i64 n, .string tx, .slice ao m0 cap] n c (armsL ks) (.slice (some ⟨g2, 0, none⟩) m c2) xs (w.heap.size + 1 + 1) m (gk - 1) (.bool nb) (.int .i64 ((j + 1 : Nat) : Int)) w1 := by
        intro w1 nb hnb hT1 hK1
        subst hnb
        refine ⟨⟨j + 1, _, orW pw (butW o.w n), py + o.y, pz + o.z, pk + (bud ⟨uo, ut, un, ux, us⟩ + 2), HN.out.2.2.2, rfl, rfl, ?_, HN.out.1, HN.out.2.1, HO.out.1, HO.out.2.1, HO.out.2.2.1, HO.out.2.2.2⟩, HKA.out.2.1.kt hK1 (by omega) (by omega), HKA.out.1.trans hK1, row_kt HKA.out.2.2 hK1 (by omega) (by omega)⟩
        rw [← orW_assoc, ← Nat.add_assoc, ← Nat.add_assoc, ← Nat.add_assoc, ← Nat.add_assoc]
        exact hT1
      have HFIN : Hid _ := FIN
      clear FIN
      generalize (o.w n).1 = ol at *
      generalize o.e = oe at *
      go_wp2_with fail
      refine CL.mono ?_
      rintro en w1 ⟨rfl, hT1, hK1⟩
      clear CL
      have HT1' : Hid (TourAt w1 R M B (orW (orW A pw) (butW o.w n)) (y + py + o.y) (z + pz + o.z) (k + pk + bud ⟨uo, ut, un, ux, us⟩ + 2)) := hT1
      clear hT1
      have hs1 := hK1.size
      cases b1 <;> cases oe <;> cases ol
      all_goals (
        go_wp2
        go_roundg (gk - 1)
        case rel => exact HFIN.out _ _ rfl (HT1'.out.alloc _) (hK1.alloc _)
        case measure => have := HN.out.2.2.1; omega)
    · have i1 : ¬ ((j : Int) < (m : Int)) := by omega
      have hd : (armsL ks).drop j = [] := List.drop_eq_nil_of_le (by rw [HM.out]; omega)
      rw [hd] at he hw hy hz hc2
      simp only [armF, orW_no, Nat.add_zero, budL, Bool.or_false] at he hw hy hz hc2
      have HF : Hid (TourAt wr R M B (orW A (armF (walkF N) n c (armsL ks)).w) (y + (armF (walkF N) n c (armsL ks)).y) (z + (armF (walkF N) n c (armsL ks)).z) (k + budL (armsL ks)) ∧ Kt R M w wr ∧ (armF (walkF N) n c (armsL ks)).e = b1) := by
        refine ⟨?_, hK, he⟩
        rw [hw, hy, hz, ← hc2]
        exact hT
      clear he hw hy hz hc2 hc1 hT
      go_wp2
      go_ret
      exact ⟨by rw [HF.out.2.2]; rfl, HF.out.1, HF.out.2.1⟩
end Go.Proofs.YtepadfcjjcionaaGreatDoor
