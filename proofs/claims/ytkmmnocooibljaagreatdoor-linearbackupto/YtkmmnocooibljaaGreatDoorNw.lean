/-
  AN INSTRUCTION EACH OF WHOSE TARGETS IS WHAT A FUNCTION MAKES OF IT.
-/
import Derived.Test.YtkmmnocooibljaaGreatDoorNe
import Derived.Test.YtkmmnocooibljaaGreatDoorNv
namespace Go.Proofs.YtkmmnocooibljaaGreatDoor
open Go.RowKit Go.Maps
set_option linter.unusedVariables false

def mixT (g : Int → Int) (L : List Int) (k : Nat) : List Int := (L.take k).map g ++ L.drop k
theorem mixT_done (g : Int → Int) (L : List Int) : mixT g L L.length = L.map g := by unfold mixT; simp
theorem mixT_next {g : Int → Int} {L : List Int} {k : Nat} (h : k < L.length) : (mixT g L k).set k (g (L.getD k 0)) = mixT g L (k + 1) := by
  unfold mixT
  have e : ((L.take k).map g).length = k := by rw [List.length_map, List.length_take]; omega
  rw [List.set_append_right _ _ (by omega), e, Nat.sub_self, List.drop_eq_getElem_cons h, List.set_cons_zero, List.take_add_one, List.getElem?_eq_getElem h, List.map_append, List.append_assoc]
  have : L.getD k 0 = L[k] := by simp [List.getD, h]
  rw [this]; rfl
theorem mixT_get {g : Int → Int} {L : List Int} {k : Nat} (h : k < L.length) : (mixT g L k)[k]? = some (L.getD k 0) := by
  unfold mixT
  have e : ((L.take k).map g).length = k := by rw [List.length_map, List.length_take]; omega
  rw [List.getElem?_append_right (by omega), e, Nat.sub_self, List.getElem?_drop]
  simp [List.getD, h]
theorem iV_set (l : List Int) (k : Nat) (x : Int) : (iV l).set k (.int .i64 x) = iV (l.set k x) := by unfold iV; rw [List.map_set]
theorem iV_rowF (l : List Int) : ∀ i, i < l.length → ∀ d, d < 1 → (iV l)[i * 1 + d]? = some (inF l i d) := by
  intro i hi d hd
  obtain rfl : d = 0 := by omega
  rw [Nat.mul_one, Nat.add_zero, iV, List.getElem?_map, List.getElem?_eq_getElem hi]
  simp [inF, List.getD, hi]
theorem own_put4n {w : World} {g : Nat} {t : TypeId} {a0 a1 a2 a3 : Value} (h : Own w g #[a0, a1, a2, a3] t) (b0 b1 b2 b3 : Value) : Own ((((w.setCell ⟨g, 0, none⟩ b0).setCell ⟨g, 1, none⟩ b1).setCell ⟨g, 2, none⟩ b2).setCell ⟨g, 3, none⟩ b3) g #[b0, b1, b2, b3] t := by
  have := (((h.set 0 b0).set 1 b1).set 2 b2).set 3 b3
  simpa using this
theorem fr_put4n (w : World) (g : Nat) (b0 b1 b2 b3 : Value) : Fr (fun k => k = g) w ((((w.setCell ⟨g, 0, none⟩ b0).setCell ⟨g, 1, none⟩ b1).setCell ⟨g, 2, none⟩ b2).setCell ⟨g, 3, none⟩ b3) :=
  ((((Fr.refl (fun k => k = g) w).set (g := g) (.inr rfl) 0 _).set (g := g) (.inr rfl) 1 _).set (g := g) (.inr rfl) 2 _).set (g := g) (.inr rfl) 3 _
def RtR (w : World) (X : In) (e : Ending) (w' : World) : Prop :=
  ∃ v, e = .returned (insV X v) ∧ Rw w' 51 2 v X.arms.length (armC X.arms) ∧ (∀ b, v.ownBlock = some b → w.heap.size ≤ b) ∧ Below w.heap.size w w'
theorem movX_ok (x : In) (tq : List Int) (h : tq.length = (tgs x).length) : (movX x tq).2 = 0 := by
  unfold movX; rw [if_neg (by omega)]
theorem results_rt {tmps : Array Value} {w : World} {g : Nat} {a0 a1 a2 a3 : Value} (h4 : tmps.getD 4 undef = ptr g) (ho : Own w g #[a0, a1, a2, a3] 43) : (results Tryz.f67 tmps).run Tryz.prog w = .ok (.agg #[a0, a1, a2, a3]) w := by
  have h4' : tmps[4]?.getD undef = .pointer (some ⟨g, 0, none⟩) := by simpa using h4
  obtain ⟨m0, m1, m2, m3, -⟩ := own4 ho
  simp [results, h4', asAddr, go_sem, m0, m1, m2, m3]
set_option maxHeartbeats 4000000 in
set_option maxRecDepth 100000 in
theorem lnretarget_as {PR : Int → Prop} {w : World} {x : In} {ao : Option Addr} {cp : Nat} (hl : InLies w x ao) (n : Nat) (hn : n = x.arms.length) (hno : ao = none → cp = 0) (hmx : n ≤ 900000) (F : FuncId) (hfn : FnIs F) (gv : Value) (g : Int → Int) (h64 : ∀ t ∈ tgs x, PR t) (hF : ∀ W t, Below w.heap.size w W → PR t → Calls Tryz.prog F #[.int .i64 t, gv] W fun e w' => e = .returned (.int .i64 (g t)) ∧ Below W.heap.size W w') :
    Calls Tryz.prog 67 #[insV x (.slice ao n cp), .func (.func F) #[] #[gv]] w (RtR w (movX x ((tgs x).map g)).1) := by
  have HTG : Hid (∀ W, Below w.heap.size w W → Calls Tryz.prog 28 #[insV x (.slice ao n cp)] W (TgR W (tgs x))) := fun W q => lnTargets_as (hl.below q) n hn (by omega)
  have hTL : (tgs x).length ≤ 900001 := by
    have : (tgs x).length ≤ x.arms.length + 1 := by
      unfold tgs
      split
      · simp
      · split
        · simp
        · simp
    omega
  have HMV : Hid (∀ W ta m tc, Below w.heap.size w W → m = (tgs x).length → m ≤ 1000000 → RowAt W ta 1 ((tgs x).map g).length (inF ((tgs x).map g)) → Calls Tryz.prog 30 #[insV x (.slice ao n cp), .slice ta m tc] W (MvR W (movX x ((tgs x).map g)))) := fun W ta m tc q1 q2 q3 q4 => lnMoved_as (hl.below q1) n hn hno (by omega) q4 (by rw [q2, List.length_map]) q3
  have hM2 := movX_ok x ((tgs x).map g) (by rw [List.length_map])
  have HF : Hid (∀ W t, Below w.heap.size w W → PR t → Calls Tryz.prog F #[.int .i64 t, gv] W fun e w' => e = .returned (.int .i64 (g t)) ∧ Below W.heap.size W w') := hF
  have H64 : Hid (∀ t ∈ tgs x, PR t) := h64
  have hfn : ∀ (a : Array Value) (w : World), (callFunc F a).run Tryz.prog w = .ok (.enter F a) w := hfn
  generalize movX x ((tgs x).map g) = MX at *
  obtain ⟨MX1, MX2⟩ := MX
  simp only at hM2
  subst hM2
  generalize tgs x = T at *
  obtain ⟨L, hL⟩ : ∃ L, T.length = L := ⟨_, rfl⟩
  have HL : Hid (T.length = L) := hL
  rw [hL] at hTL
  unfold insV at *
  have oX := (Own.new w #[.int .u8 (x.op : Int), .int .i64 x.a, .int .i64 x.b, .slice ao n cp] 43).alloc (.cells #[.int .u8 0, .int .i64 0, .int .i64 0, .slice none 0 0] 43)
  have oR := Own.new (w.alloc (.cells #[.int .u8 (x.op : Int), .int .i64 x.a, .int .i64 x.b, .slice ao n cp] 43)) #[.int .u8 0, .int .i64 0, .int .i64 0, .slice none 0 0] 43
  rw [World.size_alloc] at oR
  have hb1 : Below w.heap.size w ((w.alloc (.cells #[.int .u8 (x.op : Int), .int .i64 x.a, .int .i64 x.b, .slice ao n cp] 43)).alloc (.cells #[.int .u8 0, .int .i64 0, .int .i64 0, .slice none 0 0] 43)) := (new_below _ _).alloc (by simp) _
  have hsz1 : w.heap.size + 1 + 1 ≤ ((w.alloc (.cells #[.int .u8 (x.op : Int), .int .i64 x.a, .int .i64 x.b, .slice ao n cp] 43)).alloc (.cells #[.int .u8 0, .int .i64 0, .int .i64 0, .slice none 0 0] 43)).heap.size := by simp
  clear hl hn hmx hno hL hF h64
  generalize (x.op : Int) = N at *
  generalize x.a = XA at *
  generalize x.b = XB at *
  go_enter Tryz.func67, Tryz.ntmps67
  go_upto_region 1 with fail
  generalize (w.alloc (.cells #[.int .u8 N, .int .i64 XA, .int .i64 XB, .slice ao n cp] 43)).alloc (.cells #[.int .u8 0, .int .i64 0, .int .i64 0, .slice none 0 0] 43) = w1 at *
  obtain ⟨x0, x1, x2, x3, xf⟩ := own4 oX
  go_wp2_with fail
  refine Calls.mono (HTG.out w1 hb1) ?_
  rintro e w2 ⟨v, rfl, hv, b2⟩
  obtain ⟨a1, c1, rfl⟩ := hv.shape
  replace oX := oX.below b2
  replace oR := oR.below b2
  have HB1 : Hid (Below w.heap.size w w1) := hb1
  have HS12 : Hid (w1.heap.size ≤ w2.heap.size) := b2.size
  replace hb1 := hb1.trans (b2.mono hb1.size)
  have HROW : Hid (Rw w2 2 1 (.slice a1 T.length c1) T.length (iV T)) := hv.row
  have HNEW : Hid (∀ b, (Value.slice a1 T.length c1).ownBlock = some b → w1.heap.size ≤ b) := hv.new
  clear x0 x1 x2 x3 xf hv b2 HTG
  rw [HL.out] at HROW HNEW ⊢
  have HR0 : Hid (Rw w2 2 1 (.slice a1 L c1) L (iV (mixT g T 0))) := HROW.out
  have HTL : Hid (L ≤ 900001) := hTL
  have hLs : L ≤ 140737488355328 := by omega
  clear HROW hTL
  have HX : Hid (Own w2 w.heap.size #[.int .u8 N, .int .i64 XA, .int .i64 XB, .slice ao n cp] 43) := oX
  have HZ : Hid (Own w2 (w.heap.size + 1) #[.int .u8 0, .int .i64 0, .int .i64 0, .slice none 0 0] 43) := oR
  have HB2 : Hid (Below w.heap.size w w2) := hb1
  clear oX oR hb1
  go_wp2_with fail
  go_loopw [14] (fun i wr => ∃ k : Nat, k ≤ L ∧ i = .int .i64 (k : Int) ∧ Rw wr 2 1 (.slice a1 L c1) L (iV (mixT g T k)) ∧ Own wr w.heap.size #[.int .u8 N, .int .i64 XA, .int .i64 XB, .slice ao n cp] 43 ∧ Own wr (w.heap.size + 1) #[.int .u8 0, .int .i64 0, .int .i64 0, .slice none 0 0] 43 ∧ Below w.heap.size w wr ∧ w1.heap.size ≤ wr.heap.size) (fun i _ => L - (intOf i).toNat)
  case atStart => exact ⟨0, Nat.zero_le _, rfl, HR0.out, HX.out, HZ.out, HB2.out, HS12.out⟩
  case round =>
    clear HR0 HX HZ HB2
    obtain ⟨k, hk, rfl, hrow, hx, hz, hb, hw1⟩ := hrel
    have HW1 : Hid (w1.heap.size ≤ wr.heap.size) := hw1
    have HROW : Hid (Rw wr 2 1 (.slice a1 L c1) L (iV (mixT g T k))) := hrow
    have HX : Hid (Own wr w.heap.size #[.int .u8 N, .int .i64 XA, .int .i64 XB, .slice ao n cp] 43) := hx
    have HZ : Hid (Own wr (w.heap.size + 1) #[.int .u8 0, .int .i64 0, .int .i64 0, .slice none 0 0] 43) := hz
    have HB2 : Hid (Below w.heap.size w wr) := hb
    clear hrow hx hz hb hw1
    by_cases hlt : k < L
    · have hkT : k < T.length := by rw [HL.out]; exact hlt
      obtain ⟨g1, cap1, cur, e, o1, -⟩ := HROW.out.block (by omega)
      cases e
      have hg1 : w1.heap.size ≤ g1 := HNEW.out g1 rfl
      have d0 : wr.cell? ⟨g1, k, none⟩ = some (.int .i64 (T.getD k 0)) := Rw.cells HROW.out k _ (by rw [iV, List.getElem?_map, mixT_get hkT]; rfl)
      have hC := HF.out wr (T.getD k 0) HB2.out (H64.out _ (getD_in (z := 0) hkT))
      have HSET : Hid ((iV (mixT g T k)).set k (.int .i64 (g (T.getD k 0))) = iV (mixT g T (k + 1))) := by rw [Hid, iV_set, mixT_next hkT]
      clear hkT
      generalize T.getD k 0 = TV at *
      generalize g TV = GV at *
      have hlt2 : (k : Int) < (L : Int) := by omega
      have hk0 : (0 : Int) ≤ (k : Int) := by omega
      go_wp2_with fail
      refine Calls.mono hC ?_
      rintro e w3 ⟨rfl, b3⟩
      have HR3 : Hid (Rw w3 2 1 (.slice (some ⟨g1, 0, none⟩) L c1) L (iV (mixT g T k))) := HROW.out.belowR b3
      have o3 := o1.below b3
      have HX3 : Hid (Own (w3.setCell ⟨g1, k, none⟩ (.int .i64 GV)) w.heap.size #[.int .u8 N, .int .i64 XA, .int .i64 XB, .slice ao n cp] 43) := (HX.out.below b3).other (by omega) _
      have HZ3 : Hid (Own (w3.setCell ⟨g1, k, none⟩ (.int .i64 GV)) (w.heap.size + 1) #[.int .u8 0, .int .i64 0, .int .i64 0, .slice none 0 0] 43) := (HZ.out.below b3).other (by omega) _
      have HB3 : Hid (Below w.heap.size w (w3.setCell ⟨g1, k, none⟩ (.int .i64 GV))) := below_fr (HB2.out.trans (b3.mono HB2.out.size)) ((Fr.refl (fun j => j = g1) w3).set (g := g1) (.inr rfl) k _) (fun j q => by omega)
      have HW3 : Hid (w1.heap.size ≤ (w3.setCell ⟨g1, k, none⟩ (.int .i64 GV)).heap.size) := by rw [Hid, World.size_setCell]; exact Nat.le_trans HW1.out b3.size
      have HRN : Hid (Rw (w3.setCell ⟨g1, k, none⟩ (.int .i64 GV)) 2 1 (.slice (some ⟨g1, 0, none⟩) L c1) L (iV (mixT g T (k + 1)))) := by
        have := (World.ownsRow.stored HR3.out k (.int .i64 GV)).1
        rw [HSET.out] at this
        exact this
      have e0 : w3.cell? ⟨g1, k, none⟩ = some (.int .i64 TV) := (Below.cell (p := ⟨g1, k, none⟩) b3 (World.block_lt_of_cell? wr _ d0)).trans d0
      have ef := o3.froz
      clear d0 hC o1 b3 HROW HX HZ HB2 HR3 o3 HSET HF H64
      go_wp2
      first
        | (go_roundw
           case rel => exact ⟨k + 1, hlt, by go_num, HRN.out, HX3.out, HZ3.out, HB3.out, HW3.out⟩
           case measure => simp [intOf]; omega)
    · obtain rfl : k = L := by omega
      have HRD : Hid (Rw wr 2 1 (.slice a1 k c1) k (iV (T.map g))) := by
        have := HROW.out
        rw [← HL.out, mixT_done] at this
        rw [← HL.out]; exact this
      have hMC := HMV.out wr a1 k c1 HB2.out HL.out.symm (by have := HTL.out; omega) (rw_rowAt HRD.out (by rw [List.length_map, HL.out]; omega) (iV_rowF _))
      have oX := HX.out
      obtain ⟨x0, x1, x2, x3, xf⟩ := own4 oX
      have hb1w : Hid (w1.heap.size ≤ wr.heap.size) := HW1.out
      have HWB : Hid (w1.heap.size ≤ wr.heap.size ∧ w.heap.size + 1 + 1 ≤ wr.heap.size) := ⟨Nat.le_trans (hb1w.out) (Nat.le_refl _), by have := hsz1; have := hb1w.out; omega⟩
      clear HRD HROW HMV HF H64 HX oX
      go_wp2_with fail
      refine Calls.mono hMC ?_
      rintro e w3 ⟨v, rfl, hrow, hnew, b3⟩
      unfold insV
      simp only at hrow
      have HZ3 : Hid (Own w3 (w.heap.size + 1) #[.int .u8 0, .int .i64 0, .int .i64 0, .slice none 0 0] 43) := HZ.out.below b3
      have HBW : Hid (Below w.heap.size w w3) := HB2.out.trans (b3.mono HB2.out.size)
      have HRW : Hid (Rw w3 51 2 v MX1.arms.length (armC MX1.arms)) := hrow
      have HNW : Hid (∀ b, v.ownBlock = some b → w.heap.size + 1 + 1 ≤ b) := fun b q => Nat.le_trans HWB.out.2 (hnew b q)
      clear hMC x0 x1 x2 x3 xf hrow hnew b3 HZ HB2 HWB
      obtain ⟨va, vc, rfl, -⟩ := HRW.out.shape
      obtain ⟨m, hm⟩ : ∃ m, MX1.arms.length = m := ⟨_, rfl⟩
      obtain ⟨N1, hN1⟩ : ∃ N1 : Int, (MX1.op : Int) = N1 := ⟨_, rfl⟩
      have HFIN : Hid (∀ W, Rw W 51 2 (.slice va m vc) m (armC MX1.arms) → Below w.heap.size w W → RtR w MX1 (.returned (.agg #[.int .u8 N1, .int .i64 MX1.a, .int .i64 MX1.b, .slice va m vc])) W) := fun W q1 q2 => by
        refine ⟨.slice va m vc, by rw [← hN1], by rw [hm]; exact q1, fun b q => by have := HNW.out b (by rw [hm]; exact q); omega, q2⟩
      rw [hm] at HRW HNW ⊢
      rw [hN1]
      generalize MX1.a = A1 at *
      generalize MX1.b = B1 at *
      go_upto_region 8 with fail
      have HN4 : Hid (Rw (w3.alloc (.cells #[.int .u8 N1, .int .i64 A1, .int .i64 B1, .slice va m vc] 43)) 51 2 (.slice va m vc) m (armC MX1.arms)) := HRW.out.alloc _
      have HB4 : Hid (Below w.heap.size w (w3.alloc (.cells #[.int .u8 N1, .int .i64 A1, .int .i64 B1, .slice va m vc] 43))) := HBW.out.alloc HBW.out.size _
      have o4 := Own.new w3 #[.int .u8 N1, .int .i64 A1, .int .i64 B1, .slice va m vc] 43
      have z4 := HZ3.out.alloc (.cells #[.int .u8 N1, .int .i64 A1, .int .i64 B1, .slice va m vc] 43)
      generalize w3.alloc (.cells #[.int .u8 N1, .int .i64 A1, .int .i64 B1, .slice va m vc] 43) = w4 at *
      obtain ⟨x0, x1, x2, x3, xf⟩ := own4 o4
      obtain ⟨z0, z1, z2, z3, zf⟩ := own4 z4
      go_wp2
      (try simp only [Exit.inBlock, Exit.then])
      refine bodyPost_ret (results_rt rfl (own_put4n z4 _ _ _ _)) rfl (HFIN.out _ ?_ ?_)
      · exact HN4.out.fr (fr_put4n w4 _ _ _ _ _) (fun b q e => by have := HNW.out b q; omega)
      · exact below_fr HB4.out (fr_put4n w4 _ _ _ _ _) (fun b q => by omega)
/-- The place of a label, as the closure tells it. -/
theorem coded1_as {w : World} {gb b : Nat} {ps : List (Int × Int)} {sz : Int} (ho : Own w gb #[.map (some b), .int .i64 sz] 65) (h : PlAt w b ps) {k : Int} (hk : N64 k) :
    Calls Tryz.prog 68 #[.int .i64 k, .pointer (some ⟨gb, 0, none⟩)] w fun e w' => e = .returned (.int .i64 ((plF ps k).getD 0)) ∧ Below w.heap.size w w' := by
  have hlk := pl_look1 h hk
  have m0 := ho.cell 0
  simp only [List.getElem?_toArray, List.getElem?_cons_zero] at m0
  generalize (plF ps k).getD 0 = R at *
  clear h hk
  go_enter Tryz.func68, Tryz.ntmps68
  go_wp2
  go_ret
  exact ⟨rfl, Below.refl _ _⟩
theorem fnCoded : FnIs 68 := fun a w => by kernel_rfl
set_option maxHeartbeats 4000000 in
set_option maxRecDepth 100000 in
theorem lnCheck_as {w : World} {a : Option Addr} {n c : Nat} {xs : List LnP} (hn : n = xs.length) (h : LnsIn w a xs) (hm : n ≤ 1000000) (hA : ∀ y ∈ xs, y.x.arms.length ≤ 1000000) :
    Calls Tryz.prog 17 #[.slice a n c] w fun e w' => e = .returned (.int .i64 (match layoutL (xs.map LnP.l) with | .inl er => (er : Int) | .inr _ => 0)) ∧ Below w.heap.size w w' := by
  have HC : Hid (∀ W, Below w.heap.size w W → Calls Tryz.prog 40 #[.slice a n c] W (LoR W (layoutL (xs.map LnP.l)))) := fun W q => lnlayoutOf_as hn (h.below q) hm hA
  clear h hm hA hn
  generalize layoutL (xs.map LnP.l) = R at *
  go_enter Tryz.func17, Tryz.ntmps17
  go_wp2_with fail
  refine Calls.mono (HC.out w (Below.refl _ _)) ?_
  cases R with
  | inl er =>
    rintro e w2 ⟨rfl, b2⟩
    have HB : Hid (Below w.heap.size w w2) := b2
    clear b2 HC
    simp only
    go_wp2
    go_ret
    exact ⟨rfl, HB.out.alloc HB.out.size _⟩
  | inr st =>
    rintro e w2 ⟨b, rfl, hb1, hpl, b2⟩
    have HB : Hid (Below w.heap.size w w2) := b2
    clear b2 HC hpl hb1
    simp only
    go_wp2
    go_ret
    exact ⟨rfl, HB.out.alloc HB.out.size _⟩
end Go.Proofs.YtkmmnocooibljaaGreatDoor
