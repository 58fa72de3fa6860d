/-
  OpsReads, walked.
-/
import Derived.Test.YtffnlcamobekoaaDoorRl
import Derived.Test.YtffnlcamobekoaaDoorLc
import Derived.Test.YtffnlcamobekoaaDoorSi
import Derived.Test.YtffnlcamobekoaaDoorOw
namespace Go.Proofs.YtffnlcamobekoaaDoor
open Go.RowKit
set_option linter.unusedVariables false

theorem allR_facts (xs : List Nat) (hb : ∀ c ∈ xs, c < 256) : ∀ f p, p ≤ xs.length → (∀ x ∈ (allR xs f p).1, x.ok = true) ∧ (allR xs f p).2.1.length = (allR xs f p).1.length ∧ (allR xs f p).1.length + p ≤ xs.length := by
  intro f
  induction f with
  | zero => intro p hp; exact ⟨by simp [allR], rfl, by simpa [allR] using hp⟩
  | succ f ih =>
    intro p hp
    unfold allR
    by_cases h1 : xs.length ≤ p
    · rw [if_pos h1]; exact ⟨by simp, rfl, by simpa using hp⟩
    · rw [if_neg h1]
      simp only
      cases hd : dec xs p with
      | mk X r =>
      obtain ⟨q, er⟩ := r
      simp only
      by_cases h2 : er ≠ 0
      · rw [if_pos h2]; exact ⟨by simp, rfl, by simpa using hp⟩
      · rw [if_neg h2]
        have h0 : er = 0 := by omega
        subst h0
        have hf := dec_forth xs hb p X q hd
        have hi := ih q hf.2.2.1
        by_cases h3 : (allR xs f q).2.2 ≠ 0
        · rw [if_pos h3]; exact ⟨by simp, rfl, by simpa using hp⟩
        · rw [if_neg h3]
          refine ⟨?_, by simp [hi.2.1], ?_⟩
          · intro x hx
            rcases List.mem_cons.1 hx with rfl | hx
            · exact hf.2.2.2.1
            · exact hi.1 x hx
          · have := hi.2.2; have := hf.2.1; simp; omega
/-- A row, whatever is written into a cell. -/
theorem Rw.anyset {w : World} {e : TypeId} {size : Nat} {v : Value} {n : Nat} {zs : List Value} (h : Rw w e size v n zs) (g j : Nat) (u : Value) : ∃ zs', Rw (w.setCell ⟨g, j, none⟩ u) e size v n zs' := by
  by_cases hv : v.ownBlock = some g
  · obtain ⟨ao, cp, rfl, -⟩ := h.shape
    cases ao with
    | none => simp [Value.ownBlock] at hv
    | some ad =>
      have h2 := h
      rcases h2.2 with ⟨h', _⟩ | ⟨g', cap', cur, h', -⟩
      · cases h'
      · cases h'
        have : g' = g := by simpa [Value.ownBlock] using hv
        subst this
        exact ⟨_, (World.ownsRow.stored h j u).1⟩
  · exact ⟨_, h.set hv j u⟩
/-- What stands while what was answered is written over. -/
structure RsS (w6 : World) (N : Nat) (vl vp : Value) (ps : List (In × Value)) (k : Nat) (wr : World) : Prop where
  bel : Below w6.heap.size w6 wr
  row : ∃ zs, Rw wr 24 4 vl N zs ∧ ∀ j, k ≤ j → j < N → zs[j * 4 + 3]? = some (ps.getD j (zI, undef)).2
  arms : ∀ y ∈ ps, ∃ zs, Rw wr 46 2 y.2 y.1.arms.length zs
  ints : ∃ zs, Rw wr 3 1 vp N zs
theorem RsS.arm {w6 : World} {N : Nat} {vl vp : Value} {ps : List (In × Value)} {k : Nat} {wr : World} (h : RsS w6 N vl vp ps k wr) {g cp m : Nat} {zs : List Value} (hr : Rw wr 46 2 (.slice (some ⟨g, 0, none⟩) m cp) m zs) (hg : w6.heap.size ≤ g) (j : Nat) (u : Value) : RsS w6 N vl vp ps k (wr.setCell ⟨g, j, none⟩ u) := by
  refine ⟨h.bel.setCell (p := ⟨g, j, none⟩) hg u, ?_, fun y hy => ?_, ?_⟩
  · obtain ⟨zs, h1, h2⟩ := h.row
    exact ⟨zs, h1.set (fun e => h1.ne2 hr (by decide) g e rfl) j u, h2⟩
  · obtain ⟨zs, h1⟩ := h.arms y hy
    exact h1.anyset g j u
  · obtain ⟨zs, h1⟩ := h.ints
    exact h1.anyset g j u
theorem RsS.ins {w6 : World} {N : Nat} {vp : Value} {ps : List (In × Value)} {k : Nat} {wr : World} {g cp : Nat} (h : RsS w6 N (.slice (some ⟨g, 0, none⟩) N cp) vp ps k wr) (hg : w6.heap.size ≤ g) (hk : k < N) (u0 u1 u2 u3 : Value) :
    RsS w6 N (.slice (some ⟨g, 0, none⟩) N cp) vp ps (k + 1) ((((wr.setCell ⟨g, k * 4, none⟩ u0).setCell ⟨g, k * 4 + 1, none⟩ u1).setCell ⟨g, k * 4 + 2, none⟩ u2).setCell ⟨g, k * 4 + 3, none⟩ u3) := by
  refine ⟨(((h.bel.setCell (p := ⟨g, _, none⟩) hg u0).setCell (p := ⟨g, _, none⟩) hg u1).setCell (p := ⟨g, _, none⟩) hg u2).setCell (p := ⟨g, _, none⟩) hg u3, ?_, fun y hy => ?_, ?_⟩
  · obtain ⟨zs, h1, h2⟩ := h.row
    have s1 := (World.ownsRow.stored h1 (k * 4) u0).1
    have s2 := (World.ownsRow.stored s1 (k * 4 + 1) u1).1
    have s3 := (World.ownsRow.stored s2 (k * 4 + 2) u2).1
    have s4 := (World.ownsRow.stored s3 (k * 4 + 3) u3).1
    refine ⟨_, s4, fun j h3 h4 => ?_⟩
    rw [List.getElem?_set_ne (by omega), List.getElem?_set_ne (by omega), List.getElem?_set_ne (by omega), List.getElem?_set_ne (by omega)]
    exact h2 j (by omega) h4
  · obtain ⟨zs, h1⟩ := h.arms y hy
    obtain ⟨z1, h1⟩ := h1.anyset g (k * 4) u0
    obtain ⟨z2, h1⟩ := h1.anyset g (k * 4 + 1) u1
    obtain ⟨z3, h1⟩ := h1.anyset g (k * 4 + 2) u2
    exact h1.anyset g (k * 4 + 3) u3
  · obtain ⟨zs, h1⟩ := h.ints
    obtain ⟨z1, h1⟩ := h1.anyset g (k * 4) u0
    obtain ⟨z2, h1⟩ := h1.anyset g (k * 4 + 1) u1
    obtain ⟨z3, h1⟩ := h1.anyset g (k * 4 + 2) u2
    exact h1.anyset g (k * 4 + 3) u3
theorem RsS.int {w6 : World} {N : Nat} {vl vp : Value} {ps : List (In × Value)} {k : Nat} {wr : World} (h : RsS w6 N vl vp ps k wr) {g cp : Nat} {zs : List Value} (hr : Rw wr 3 1 (.slice (some ⟨g, 0, none⟩) N cp) N zs) (hg : w6.heap.size ≤ g) (j : Nat) (u : Value) : RsS w6 N vl vp ps k (wr.setCell ⟨g, j, none⟩ u) := by
  refine ⟨h.bel.setCell (p := ⟨g, j, none⟩) hg u, ?_, fun y hy => ?_, ?_⟩
  · obtain ⟨zs, h1, h2⟩ := h.row
    exact ⟨zs, h1.set (fun e => h1.ne2 hr (by decide) g e rfl) j u, h2⟩
  · obtain ⟨zs, h1⟩ := h.arms y hy
    exact h1.anyset g j u
  · obtain ⟨zs, h1⟩ := h.ints
    exact h1.anyset g j u
/-- What stands beside: what was lent, the document's lists. -/
structure RdK (W w : World) (g n c : Nat) (xs : List Nat) (vl vp : Value) (ps : List (In × Value)) (PL : List Nat) : Prop where
  lent : LentB w g n c xs
  row : ∃ B, InsRow w B vl ps
  ints : Rw w 3 1 vp PL.length (intC PL)
  bel : Below W.heap.size W w
theorem RdK.below {W w w' : World} {g n c : Nat} {xs : List Nat} {vl vp : Value} {ps : List (In × Value)} {PL : List Nat} (h : RdK W w g n c xs vl vp ps PL) (hb : Below w.heap.size w w') : RdK W w' g n c xs vl vp ps PL := by
  obtain ⟨B, hr⟩ := h.row
  exact ⟨h.lent.below hb, ⟨B, hr.below hb⟩, h.ints.belowR hb, h.bel.trans (hb.mono h.bel.size)⟩
theorem sameAll {w : World} {B B' : Nat} {vl vl' : Value} {ps ps' : List (In × Value)} {L1 : List In} (h1 : ps.map Prod.fst = L1) (h2 : ps'.map Prod.fst = L1) (hok : ∀ x ∈ L1, x.ok = true) (hc : L1.length ≤ 1000000) (r1 : InsRow w B vl ps) (r2 : InsRow w B' vl' ps') :
    Calls Tryd.prog 24 #[vl, vl'] w fun e w' => e = .returned (.bool true) ∧ Below w.heap.size w w' := by
  have hk : ∀ (qs : List (In × Value)), qs.map Prod.fst = L1 → ∀ y ∈ qs, y.1.ok = true := fun qs h y hy => hok _ (by rw [← h]; exact List.mem_map.2 ⟨y, hy, rfl⟩)
  obtain ⟨ao, cp, qs, rfl, e1, l1⟩ := insRow_lies r1 (hk ps h1)
  obtain ⟨ao', cp', qs', rfl, e2, l2⟩ := insRow_lies r2 (hk ps' h2)
  have n1 : ps.length = L1.length := by rw [← h1, List.length_map]
  have n2 : ps'.length = L1.length := by rw [← h2, List.length_map]
  have n3 : qs.length = L1.length := by rw [← n1, ← List.length_map (f := Prod.fst), e1, List.length_map]
  rw [n1, n2]
  refine sameInss_eq (ps := qs) (qs := qs') n3.symm (by rw [e1, e2, h1, h2]) l1 l2 (by omega) (fun y hy => ?_)
  have hm : y.1 ∈ L1 := by rw [← h1, ← e1]; exact List.mem_map.2 ⟨y, hy, rfl⟩
  have := (ok_in (hok _ hm)).2.2.2.2
  omega
theorem sameInt {w : World} {vp vp' : Value} {PL : List Nat} (r1 : Rw w 3 1 vp PL.length (intC PL)) (r2 : Rw w 3 1 vp' PL.length (intC PL)) (hm : PL.length ≤ 1000000) :
    Calls Tryd.prog 25 #[vp, vp'] w fun e w' => e = .returned (.bool true) ∧ Below w.heap.size w w' := by
  have e0 : intC PL = (PL.map fun (x : Nat) => (x : Int)).map fun x => Value.int .i64 x := by unfold intC; rw [List.map_map]; rfl
  rw [e0] at r1 r2
  obtain ⟨ao, cp, rfl, l1⟩ := rw_intLies (by rw [List.length_map]) r1
  obtain ⟨ao', cp', rfl, l2⟩ := rw_intLies (by rw [List.length_map]) r2
  refine (sameInts_eq (by rw [List.length_map]) l1 l2 (by omega)).mono ?_
  rintro e w' ⟨rfl, q, rfl⟩
  exact ⟨rfl, below_drewN w q⟩
theorem sameDec {w : World} {xs : List Nat} (hb : ∀ c ∈ xs, c < 256) {p : Int} {X : In} {q er : Nat} (hd : dec xs p = (X, q, er)) {v v' : Value} (r1 : Rw w 46 2 v X.arms.length (armC X.arms)) (r2 : Rw w 46 2 v' X.arms.length (armC X.arms)) :
    Calls Tryd.prog 23 #[insV X v, insV X v'] w fun e w' => e = .returned (.bool true) ∧ Below w.heap.size w w' := by
  have hn : (∀ y ∈ X.arms, (-9223372036854775808 ≤ y.1 ∧ y.1 ≤ 9223372036854775807) ∧ (-9223372036854775808 ≤ y.2 ∧ y.2 ≤ 9223372036854775807)) ∧ X.arms.length ≤ 65535 := by
    by_cases h0 : er = 0
    · subst h0
      have := ok_in (dec_forth xs hb p X q hd).2.2.2.1
      exact ⟨this.2.2.2.1, this.2.2.2.2⟩
    · have hz : X = zI := by
        unfold dec at hd
        split at hd
        · cases hd; rfl
        · split at hd
          · cases hd; rfl
          · split at hd
            · cases hd; rfl
            · cases hd; exact absurd rfl h0
      subst hz
      exact ⟨by simp [zI], by simp [zI]⟩
  obtain ⟨ao, cp, rfl, l1⟩ := rw_armLies r1 hn.1
  obtain ⟨ao', cp', rfl, l2⟩ := rw_armLies r2 hn.1
  exact sameIns_eq rfl l1 l2 (by omega)
def DcR (w : World) (N XA XB : Int) (m : Nat) (AC : List Value) (q er : Int) (e : Ending) (w' : World) : Prop := ∃ a1 c1, e = .returned (.tuple #[.agg #[.int .u8 N, .int .i64 XA, .int .i64 XB, .slice a1 m c1], .int .i64 q, .int .i64 er]) ∧ Rw w' 46 2 (.slice a1 m c1) m AC ∧ Below w.heap.size w w'
theorem dec_dcr {w : World} {X : In} {q er : Nat} {e : Ending} {w' : World} (h : DecRet w (X, q, er) e w') : DcR w (X.op : Int) X.a X.b X.arms.length (armC X.arms) (q : Int) (er : Int) e w' := by
  obtain ⟨v, rfl, h1, -, h3⟩ := h
  obtain ⟨a, c, rfl, -⟩ := h1.shape
  exact ⟨a, c, rfl, h1, h3⟩
def AlR (w : World) (N : Nat) (L1 : List In) (PL : List Nat) (er : Int) (e : Ending) (w' : World) : Prop := ∃ al cl ap cp ps, e = .returned (.tuple #[.slice al N cl, .slice ap N cp, .int .i64 er]) ∧ ps.map Prod.fst = L1 ∧ InsRow w' w.heap.size (.slice al N cl) ps ∧ Rw w' 3 1 (.slice ap N cp) PL.length (intC PL) ∧ (∀ b, (Value.slice ap N cp).ownBlock = some b → w.heap.size ≤ b) ∧ Below w.heap.size w w'
theorem all_alr {w : World} {N : Nat} {L1 : List In} {PL : List Nat} {er : Nat} (hN : L1.length = N) (hP : PL.length = N) {e : Ending} {w' : World} (h : AllRet w (L1, PL, er) e w') : AlR w N L1 PL (er : Int) e w' := by
  obtain ⟨vl, vp, ps, rfl, h1, h2, h3, h4, h5⟩ := h
  obtain ⟨al, cl, rfl, -⟩ := h2.row.shape
  obtain ⟨ap, cp, rfl, -⟩ := h3.shape
  have hl : ps.length = N := by rw [← hN]; have := congrArg List.length h1; simpa using this
  have hp : (L1, PL, er).2.1.length = N := hP
  rw [hl] at h2
  rw [hp] at h3 h4
  rw [hl, hp]
  exact ⟨al, cl, ap, cp, ps, rfl, h1, h2, by rw [hP]; exact h3, h4, h5⟩
set_option maxHeartbeats 8000000 in
set_option maxRecDepth 100000 in
theorem reads_walk (W : World) (a : Option Addr) (cap : Nat) (xs : List Nat) (hx : BytesAt W a cap xs) (p : Int) (hN : NamesAt W) :
    Calls Tryd.prog 4 #[.slice a xs.length cap, .int .i64 p] W fun e w' => e = .returned (.bool true) ∧ Below W.heap.size W w' := by
  obtain ⟨n, hn⟩ : ∃ n, xs.length = n := ⟨_, rfl⟩
  have HWORKS : Hid (∀ w, Below W.heap.size W w → Calls Tryd.prog 9 #[] w fun e w' => e = .returned (.bool true) ∧ Below w.heap.size w w') := fun w h => works_any (hN.below h)
  rw [hn]
  by_cases hbig : 65536 < n
  · have hbi : (65536 : Int) < (n : Int) := by omega
    clear hx hn hN
    go_enter Tryd.func4, Tryd.ntmps4
    go_wp2_with fail
    refine Calls.mono (HWORKS.out W (Below.refl _ _)) ?_
    rintro e w2 ⟨rfl, b2⟩
    go_wp2
    go_ret
    exact ⟨rfl, b2⟩
  · have hsm : n ≤ 65536 := by omega
    have hsmi : (n : Int) ≤ 65536 := by omega
    have hB := hx.lies.1
    have HLENT : Hid (∀ w, Below W.heap.size W w → Calls Tryd.prog 18 #[.slice a n cap] w fun e w' => ∃ g c', e = .returned (.slice (some ⟨g, 0, none⟩) n c') ∧ LentB w' g n c' xs ∧ w.heap.size ≤ g ∧ Below w.heap.size w w') := fun w h => klentB_as (hx.lies.below h) hn.symm hx.none hsm
    have HKEPT : Hid (∀ w g c, Below W.heap.size W w → LentB w g n c xs → Calls Tryd.prog 26 #[.slice (some ⟨g, 0, none⟩) n c, .slice a n cap] w fun e w' => e = .returned (.bool true) ∧ w = w') := fun w g c h q => kkeptB_as q (hx.lies.below h) hn.symm hsm
    have HLL : ∀ w g c, LentB w g n c xs → Lies w (some ⟨g, 0, none⟩) xs := fun w g c q => q.lies hn.symm hB (by omega)
    cases hdec : dec xs p with
    | mk X qe =>
    obtain ⟨qq, er⟩ := qe
    have HRD : Hid (∀ w, Below W.heap.size W w → Calls Tryd.prog 19 #[.slice a n cap, .int .i64 p] w (DcR w (X.op : Int) X.a X.b X.arms.length (armC X.arms) (qq : Int) (er : Int))) := fun w h => by
      have := rdec_as (cap := cap) (hx.lies.below h) hn.symm p
      rw [hdec] at this; exact this.mono fun _ _ q => dec_dcr q
    have HD : Hid (∀ w g c, LentB w g n c xs → Calls Tryd.prog 20 #[.slice (some ⟨g, 0, none⟩) n c, .int .i64 p] w (DcR w (X.op : Int) X.a X.b X.arms.length (armC X.arms) (qq : Int) (er : Int))) := fun w g c q => by
      have := dec_as (cap := c) (HLL w g c q) hn.symm p
      rw [hdec] at this; exact this.mono fun _ _ q => dec_dcr q
    have HSI : Hid (∀ w a1 c1 a2 c2, Rw w 46 2 (.slice a1 X.arms.length c1) X.arms.length (armC X.arms) → Rw w 46 2 (.slice a2 X.arms.length c2) X.arms.length (armC X.arms) → Calls Tryd.prog 23 #[.agg #[.int .u8 (X.op : Int), .int .i64 X.a, .int .i64 X.b, .slice a2 X.arms.length c2], .agg #[.int .u8 (X.op : Int), .int .i64 X.a, .int .i64 X.b, .slice a1 X.arms.length c1]] w fun e w' => e = .returned (.bool true) ∧ Below w.heap.size w w') := fun w a1 c1 a2 c2 r1 r2 => sameDec hB hdec r2 r1
    have hfacts := allR_facts xs hB xs.length 0 (Nat.zero_le _)
    cases hall : allD xs with
    | mk L1 r1 =>
    obtain ⟨PL, e1⟩ := r1
    rw [show allR xs xs.length 0 = (L1, PL, e1) from hall] at hfacts
    obtain ⟨f1, f2, f3⟩ := hfacts
    have f1 : ∀ x ∈ L1, x.ok = true := f1
    have f2 : PL.length = L1.length := f2
    have f3 : L1.length + 0 ≤ xs.length := f3
    obtain ⟨N, hNN⟩ : ∃ N, L1.length = N := ⟨_, rfl⟩
    have hPN : PL.length = N := f2.trans hNN
    have HPN : Hid (PL.length = N) := hPN
    have HRA : Hid (∀ w, Below W.heap.size W w → Calls Tryd.prog 21 #[.slice a n cap] w (AlR w N L1 PL (e1 : Int))) := fun w h => by
      have := rall_as (cap := cap) (hx.lies.below h) hn.symm (by omega)
      rw [hall] at this; exact this.mono fun _ _ q => all_alr hNN hPN q
    have HA : Hid (∀ w g c, LentB w g n c xs → Calls Tryd.prog 22 #[.slice (some ⟨g, 0, none⟩) n c] w (AlR w N L1 PL (e1 : Int))) := fun w g c q => by
      have := all_as (cap := c) (HLL w g c q) hn.symm (by omega)
      rw [hall] at this; exact this.mono fun _ _ q => all_alr hNN hPN q
    have HSA : Hid (∀ w B B' vl vl' ps ps', ps.map Prod.fst = L1 → ps'.map Prod.fst = L1 → InsRow w B vl ps → InsRow w B' vl' ps' → Calls Tryd.prog 24 #[vl, vl'] w fun e w' => e = .returned (.bool true) ∧ Below w.heap.size w w') := fun w B B' vl vl' ps ps' h1 h2 r1 r2 => sameAll h1 h2 f1 (by omega) r1 r2
    have HSN : Hid (∀ w vp vp', Rw w 3 1 vp PL.length (intC PL) → Rw w 3 1 vp' PL.length (intC PL) → Calls Tryd.prog 25 #[vp, vp'] w fun e w' => e = .returned (.bool true) ∧ Below w.heap.size w w') := fun w vp vp' r1 r2 => sameInt r1 r2 (by omega)
    have hN64 : N ≤ 65536 := by omega
    have HLN : Hid (∀ ps : List (In × Value), ps.map Prod.fst = L1 → ps.length = N ∧ ∀ y ∈ ps, y.1.arms.length ≤ 65535) := fun ps h => ⟨by rw [← hNN, ← h, List.length_map], fun y hy => (ok_in (f1 _ (by rw [← h]; exact List.mem_map.2 ⟨y, hy, rfl⟩))).2.2.2.2⟩
    clear hx hn hN HLL hdec hall f1 f2 f3 hNN hPN hB hbig
    generalize (X.op : Int) = XO at *
    generalize X.a = XA at *
    generalize X.b = XB at *
    generalize armC X.arms = AC at *
    generalize X.arms.length = m at *
    generalize (qq : Int) = Q at *
    generalize (er : Int) = ER at *
    generalize (e1 : Int) = E1 at *
    go_enter Tryd.func4, Tryd.ntmps4
    go_wp2_with fail
    refine Calls.mono (HLENT.out W (Below.refl _ _)) ?_
    rintro e w1 ⟨g, c, rfl, hlent, -, b1⟩
    clear HLENT
    go_wp2_with fail
    refine Calls.mono (HRD.out w1 b1) ?_
    rintro e w2 ⟨a1, c1, rfl, r1, b2⟩
    replace hlent := (hlent.below b2).below (new_below w2 (.cells #[.int .u8 XO, .int .i64 XA, .int .i64 XB, .slice a1 m c1] 24))
    replace b1 := (b1.trans (b2.mono b1.size)).alloc (Nat.le_trans b1.size b2.size) (.cells #[.int .u8 XO, .int .i64 XA, .int .i64 XB, .slice a1 m c1] 24)
    have o6 := Own.new w2 #[.int .u8 XO, .int .i64 XA, .int .i64 XB, .slice a1 m c1] 24
    replace r1 := r1.alloc (.cells #[.int .u8 XO, .int .i64 XA, .int .i64 XB, .slice a1 m c1] 24)
    clear b2 HRD
    go_upto_region 5 with fail
    generalize w2.alloc (.cells #[.int .u8 XO, .int .i64 XA, .int .i64 XB, .slice a1 m c1] 24) = w3 at *
    generalize w2.heap.size = g6 at *
    go_wp2_with fail
    refine Calls.mono (HD.out w3 g c hlent) ?_
    rintro e w4 ⟨a2, c2, rfl, r2, b4⟩
    replace hlent := (hlent.below b4).below (new_below w4 (.cells #[.int .u8 XO, .int .i64 XA, .int .i64 XB, .slice a2 m c2] 24))
    replace b1 := (b1.trans (b4.mono b1.size)).alloc (Nat.le_trans b1.size b4.size) (.cells #[.int .u8 XO, .int .i64 XA, .int .i64 XB, .slice a2 m c2] 24)
    replace o6 := (o6.below b4).alloc (.cells #[.int .u8 XO, .int .i64 XA, .int .i64 XB, .slice a2 m c2] 24)
    have o9 := Own.new w4 #[.int .u8 XO, .int .i64 XA, .int .i64 XB, .slice a2 m c2] 24
    replace r1 := (r1.belowR b4).alloc (.cells #[.int .u8 XO, .int .i64 XA, .int .i64 XB, .slice a2 m c2] 24)
    replace r2 := r2.alloc (.cells #[.int .u8 XO, .int .i64 XA, .int .i64 XB, .slice a2 m c2] 24)
    clear b4 HD
    go_upto_region 6 with fail
    generalize w4.alloc (.cells #[.int .u8 XO, .int .i64 XA, .int .i64 XB, .slice a2 m c2] 24) = w5 at *
    generalize w4.heap.size = g9 at *
    go_wp2_with fail
    refine Calls.mono (HRA.out w5 b1) ?_
    rintro e w6 ⟨al, cl, ap, cp, ps, rfl, hps, row, ints, -, b6⟩
    have K6 : RdK W w6 g n c xs (.slice al N cl) (.slice ap N cp) ps PL := ⟨hlent.below b6, ⟨_, row⟩, ints, b1.trans (b6.mono b1.size)⟩
    replace o6 := o6.below b6
    replace o9 := o9.below b6
    replace r1 := r1.belowR b6
    replace r2 := r2.belowR b6
    clear hlent b1 b6 row ints HRA
    go_wp2_with fail
    refine Calls.mono (HA.out w6 g c K6.lent) ?_
    rintro e w7 ⟨al', cl', ap', cp', ps', rfl, hps', row', ints', nints', b7⟩
    have K7 := K6.below b7
    replace o6 := o6.below b7
    replace o9 := o9.below b7
    replace r1 := r1.belowR b7
    replace r2 := r2.belowR b7
    obtain ⟨x0, x1, x2, x3, xf⟩ := own4 o6
    obtain ⟨y0, y1, y2, y3, yf⟩ := own4 o9
    go_wp2_with fail
    refine Calls.mono (HSI.out w7 a1 c1 a2 c2 r1 r2) ?_
    rintro e w8 ⟨rfl, b8⟩
    have K8 := K7.below b8
    have row8 := row'.below b8
    have ints8 := ints'.belowR b8
    have b78 := b7.trans (b8.mono b7.size)
    clear x0 x1 x2 x3 xf y0 y1 y2 y3 yf o6 o9 r1 r2 b8 HSI K7 row' ints' b7
    obtain ⟨B8, kr8⟩ := K8.row
    go_wp2_with fail
    refine Calls.mono (HSA.out w8 _ _ _ _ ps' ps hps' hps row8 kr8) ?_
    rintro e w9 ⟨rfl, b9⟩
    have K9 := K8.below b9
    have row9 := row8.below b9
    have ints9 := ints8.belowR b9
    have b79 := b78.trans (b9.mono b78.size)
    clear b9 K8 row8 ints8 b78 kr8
    go_wp2_with fail
    refine Calls.mono (HSN.out w9 _ _ ints9 K9.ints) ?_
    rintro e w10 ⟨rfl, b10⟩
    have K10 := K9.below b10
    have row10 := row9.below b10
    have ints10 := ints9.belowR b10
    have b710 := b79.trans (b10.mono b79.size)
    clear b10 K9 row9 ints9 b79
    go_wp2_with fail
    refine Calls.mono (HKEPT.out w10 g c K10.bel K10.lent) ?_
    rintro e w11 ⟨rfl, rfl⟩
    rw [HPN.out] at ints10
    obtain ⟨hpl, hpa⟩ := HLN.out ps' hps'
    have REL : Hid (RsS w6 N (.slice al' N cl') (.slice ap' N cp') ps' 0 w10) := by
      refine ⟨b710, ⟨_, by have := row10.row; rw [hpl] at this; exact this, fun j _ hj => (insC_get ps' j (by omega)).2.2.2⟩, fun y hy => ⟨_, (row10.arms y hy).1⟩, ⟨_, ints10⟩⟩
    have HNL : Hid (∀ b, (Value.slice al' N cl').ownBlock = some b → w6.heap.size ≤ b) := row10.new
    have HNA : Hid (∀ y ∈ ps', ∀ b, y.2.ownBlock = some b → w6.heap.size ≤ b) := fun y hy => (row10.arms y hy).2
    have HNP : Hid (∀ b, (Value.slice ap' N cp').ownBlock = some b → w6.heap.size ≤ b) := nints'
    have HPA : Hid (∀ y ∈ ps', y.1.arms.length ≤ 65535) := hpa
    have HPL : Hid (ps'.length = N) := hpl
    have HK6 : Hid (RdK W w6 g n c xs (.slice al N cl) (.slice ap N cp) ps PL) := K6
    have HPS : Hid (ps.map Prod.fst = L1) := hps
    clear b710 row10 ints10 nints' hpa hpl K6 K10 hps hps' HLN
    go_wp2_with fail
    go_loopg [18] N (fun g i wr => ∃ k : Nat, k + g = N ∧ i = .int .i64 (k : Int) ∧ RsS w6 N (.slice al' N cl') (.slice ap' N cp') ps' k wr)
    case atStart => exact ⟨0, by omega, rfl, REL.out⟩
    case round =>
      clear REL
      obtain ⟨k, hk, rfl, hS⟩ := hrel
      cases gk with
      | succ gq =>
        have hkN : k < N := by omega
        have hkx : k < ps'.length := by rw [HPL.out]; exact hkN
        obtain ⟨y, hy⟩ : ∃ y, y = ps'.getD k (zI, undef) := ⟨_, rfl⟩
        have hym : y ∈ ps' := by rw [hy]; simp [List.getD, hkx]
        have hma := HPA.out y hym
        obtain ⟨zs, hr, hz⟩ := hS.row
        have hz3 := hz k (Nat.le_refl _) hkN
        rw [← hy] at hz3
        obtain ⟨gl, capl, cur, e, -⟩ := hr.block (by omega)
        cases e
        have hngl : w6.heap.size ≤ gl := HNL.out gl rfl
        obtain ⟨zz, hzz⟩ := hS.arms y hym
        obtain ⟨aa, ca, hya, -⟩ := hzz.shape
        rw [hya] at hz3
        have HNY : Hid (∀ b, (Value.slice aa y.1.arms.length ca).ownBlock = some b → w6.heap.size ≤ b) := by have := HNA.out y hym; rw [hya] at this; exact this
        have HYA : Hid (y.2 = .slice aa y.1.arms.length ca) := hya
        have HYM : Hid (y ∈ ps') := hym
        have HHK : Hid (k + (gq + 1) = N) := hk
        have RELI : Hid (RsS w6 N (.slice (some ⟨gl, 0, none⟩) N cl') (.slice ap' N cp') ps' k wr ∧ ∃ zs, Rw wr 24 4 (.slice (some ⟨gl, 0, none⟩) N cl') N zs ∧ zs[k * 4 + 3]? = some (.slice aa y.1.arms.length ca)) := ⟨hS, zs, hr, hz3⟩
        have hkI : (k : Int) < (N : Int) := by omega
        have hk0 : (0 : Int) ≤ (k : Int) := by omega
        have hNI : (N : Int) ≤ 65536 := by omega
        obtain ⟨M, hM⟩ : ∃ M, y.1.arms.length = M := ⟨_, rfl⟩
        have HM : Hid (y.1.arms.length = M) := hM
        rw [hM] at RELI HYA HNY hma
        clear hS hr hz hz3 hzz hya hym hy HNA hk hM
        go_wp2_with fail
        go_loopg [19] M (fun g2 i wr => ∃ k2 : Nat, k2 + g2 = M ∧ i = .int .i64 (k2 : Int) ∧ RsS w6 N (.slice (some ⟨gl, 0, none⟩) N cl') (.slice ap' N cp') ps' k wr ∧ ∃ zs, Rw wr 24 4 (.slice (some ⟨gl, 0, none⟩) N cl') N zs ∧ zs[k * 4 + 3]? = some (.slice aa M ca))
        case atStart => exact ⟨0, by omega, rfl, RELI.out⟩
        case round =>
          clear RELI
          obtain ⟨k2, hk2, rfl, hS, zs, hr, hz⟩ := hrel
          have l3 := hr.cells (k * 4 + 3) _ hz
          have lf : ∀ j, wr.frozen? ⟨gl, j, none⟩ = false := fun j => World.ownsRow.frozenAt hr j
          have hrr : wr.ownsRow 0 24 4 (.slice (some ⟨gl, 0, none⟩) N cl') N zs := hr
          cases gk with
          | succ gi =>
            obtain ⟨zz, hzz⟩ := hS.arms y HYM.out
            rw [HYA.out, HM.out] at hzz
            obtain ⟨ga, capa, cur, e, -⟩ := hzz.block (by omega)
            cases e
            have hga : w6.heap.size ≤ ga := HNY.out ga rfl
            have hzz2 : wr.ownsRow 0 46 2 (.slice (some ⟨ga, 0, none⟩) M ca) M zz := hzz
            have hf : ∀ j, wr.frozen? ⟨ga, j, none⟩ = false := fun j => hzz2.frozenAt j
            have c0 : ∃ u, wr.cell? ⟨ga, k2 * 2, none⟩ = some u := by
              rw [hzz2.cellAt (k2 * 2) (by omega)]
              have : k2 * 2 < zz.length := by rw [hzz2.1]; omega
              exact ⟨_, List.getElem?_eq_getElem this⟩
            have c1 : ∃ u, wr.cell? ⟨ga, k2 * 2 + 1, none⟩ = some u := by
              rw [hzz2.cellAt (k2 * 2 + 1) (by omega)]
              have : k2 * 2 + 1 < zz.length := by rw [hzz2.1]; omega
              exact ⟨_, List.getElem?_eq_getElem this⟩
            obtain ⟨u0, c0⟩ := c0
            obtain ⟨u1, c1⟩ := c1
            have S1 := hS.arm hzz hga (k2 * 2) (.int .i64 (-9))
            have z1 : Rw (wr.setCell ⟨ga, k2 * 2, none⟩ (.int .i64 (-9))) 46 2 (.slice (some ⟨ga, 0, none⟩) M ca) M _ := (hzz2.stored (k2 * 2) (.int .i64 (-9))).1
            have S2 := S1.arm z1 hga (k2 * 2 + 1) (.int .i64 0)
            have hr1 := (hr.set (fun e => hr.ne2 hzz (by decide) ga e rfl) (k2 * 2) (.int .i64 (-9)))
            have hr2 := (hr1.set (fun e => hr1.ne2 z1 (by decide) ga e rfl) (k2 * 2 + 1) (.int .i64 0))
            have RES : Hid (RsS w6 N (.slice (some ⟨gl, 0, none⟩) N cl') (.slice ap' N cp') ps' k ((wr.setCell ⟨ga, k2 * 2, none⟩ (.int .i64 (-9))).setCell ⟨ga, k2 * 2 + 1, none⟩ (.int .i64 0)) ∧ ∃ zs, Rw ((wr.setCell ⟨ga, k2 * 2, none⟩ (.int .i64 (-9))).setCell ⟨ga, k2 * 2 + 1, none⟩ (.int .i64 0)) 24 4 (.slice (some ⟨gl, 0, none⟩) N cl') N zs ∧ zs[k * 4 + 3]? = some (.slice (some ⟨ga, 0, none⟩) M ca)) := ⟨S2, zs, hr2, hz⟩
            have hk2M : (k2 : Int) < (M : Int) := by omega
            have hk20 : (0 : Int) ≤ (k2 : Int) := by omega
            have hMI : (M : Int) ≤ 65535 := by omega
            clear hS hr hz hrr hzz hzz2 S1 z1 S2 hr1 hr2 HNL HNY HYA HYM HNP HK6 HPS
            go_wp2
            go_roundg gi
            case measure => omega
            case rel => exact ⟨k2 + 1, by omega, by go_num, RES.out⟩
          | zero =>
            have hS17 := hS.ins hngl hkN (.int .u8 99) (.int .i64 0) (.int .i64 0) (.slice none 0 0)
            have cs : ∀ d, d < 4 → ∃ u, wr.cell? ⟨gl, k * 4 + d, none⟩ = some u := by
              intro d hd
              rw [hrr.cellAt (k * 4 + d) (by omega)]
              have : k * 4 + d < zs.length := by rw [hrr.1]; omega
              exact ⟨_, List.getElem?_eq_getElem this⟩
            obtain ⟨u0, q0⟩ := cs 0 (by omega)
            obtain ⟨u1, q1⟩ := cs 1 (by omega)
            obtain ⟨u2, q2⟩ := cs 2 (by omega)
            have q0 : wr.cell? ⟨gl, k * 4, none⟩ = some u0 := q0
            have hk2M : decide ((k2 : Int) < (M : Int)) = false := by simp; omega
            clear hS hr hz hrr cs
            go_upto_region 18 with fail
            generalize (((wr.setCell ⟨gl, k * 4, none⟩ (.int .u8 99)).setCell ⟨gl, k * 4 + 1, none⟩ (.int .i64 0)).setCell ⟨gl, k * 4 + 2, none⟩ (.int .i64 0)).setCell ⟨gl, k * 4 + 3, none⟩ (.slice none 0 0) = w17 at *
            clear q0 q1 q2 l3 lf
            obtain ⟨zi, hzi⟩ := hS17.ints
            obtain ⟨gp, capp, curp, e, -⟩ := hzi.block (by omega)
            cases e
            have hgp : w6.heap.size ≤ gp := HNP.out gp rfl
            have hzi2 : w17.ownsRow 0 3 1 (.slice (some ⟨gp, 0, none⟩) N cp') N zi := hzi
            have pf := hzi2.frozenAt k
            have pc : ∃ u, w17.cell? ⟨gp, k, none⟩ = some u := by
              rw [hzi2.cellAt k (by omega)]
              have : k < zi.length := by rw [hzi2.1]; omega
              exact ⟨_, List.getElem?_eq_getElem this⟩
            obtain ⟨u3, pc⟩ := pc
            have RES : Hid (RsS w6 N (.slice (some ⟨gl, 0, none⟩) N cl') (.slice (some ⟨gp, 0, none⟩) N cp') ps' (k + 1) (w17.setCell ⟨gp, k, none⟩ (.int .i64 (-1)))) := hS17.int hzi hgp k (.int .i64 (-1))
            clear hS17 hzi hzi2 HNL HNY HYA HYM HNP HK6 HPS
            go_wp2
            go_roundg gq
            case measure => omega
            case rel => exact ⟨k + 1, by have := HHK.out; omega, by go_num, RES.out⟩
      | zero =>
        have K9 := HK6.out.below hS.bel
        obtain rfl : k = N := by omega
        clear hS hk HNL HNA HNP
        go_wp2_with fail
        refine Calls.mono (HA.out wr g c K9.lent) ?_
        rintro e w12 ⟨al2, cl2, ap2, cp2, ps2, rfl, hps2, row2, ints2, -, b2⟩
        have K12 := K9.below b2
        clear b2 K9
        obtain ⟨B12, kr12⟩ := K12.row
        go_wp2_with fail
        refine Calls.mono (HSA.out w12 _ _ _ _ ps2 ps hps2 HPS.out row2 kr12) ?_
        rintro e w13 ⟨rfl, b13⟩
        have K13 := K12.below b13
        have ints3 := ints2.belowR b13
        clear b13 K12 row2 ints2 kr12
        go_wp2_with fail
        refine Calls.mono (HSN.out w13 _ _ ints3 K13.ints) ?_
        rintro e w14 ⟨rfl, b14⟩
        have K14 := K13.below b14
        clear b14 K13 ints3
        go_wp2_with fail
        refine Calls.mono (HWORKS.out w14 K14.bel) ?_
        rintro e w15 ⟨rfl, b15⟩
        have K15 := K14.below b15
        go_wp2
        go_ret
        exact ⟨rfl, K15.bel⟩
end Go.Proofs.YtffnlcamobekoaaDoor
