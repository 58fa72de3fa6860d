/-
  CONTRACT of the document's Decode.
-/
import Derived.Test.YtffnlcamobekoaaDoorRy
import Derived.Test.YtffnlcamobekoaaDoorDe2
import Derived.Test.YtffnlcamobekoaaDoorRs
import Derived.Deep.RegionHeld3
namespace Go.Proofs.YtffnlcamobekoaaDoor
open Go.RowKit
set_option linter.unusedVariables false

/-- What stands while the document's Decode runs. -/
structure RdS (w : World) (r gx pb : Nat) (P : Array Value) (a : Option Addr) (L cap : Nat) (xs : List Nat) (X : Array Value) (s : St) (W : World) : Prop where
  rd : RrAt W r a L cap s
  ox : Own W gx X 24
  ot : Own W w.heap.size zX 24
  op : P = #[] ∨ Own W pb P 67
  lies : Lies W a xs
  bel : Below w.heap.size w W
  n1 : w.heap.size < r
  n2 : ¬ r = gx
  n3 : w.heap.size < gx
  n4 : ∀ b off, a = some ⟨b, off, none⟩ → b < w.heap.size
theorem RdS.below {w : World} {r gx pb : Nat} {P : Array Value} {a : Option Addr} {L cap : Nat} {xs : List Nat} {X : Array Value} {s : St} {W W' : World} (h : RdS w r gx pb P a L cap xs X s W) (hb : Below W.heap.size W W') : RdS w r gx pb P a L cap xs X s W' :=
  ⟨h.rd.below hb, h.ox.below hb, h.ot.below hb, h.op.imp id (fun q => q.below hb), h.lies.below hb, h.bel.trans (hb.mono h.bel.size), h.n1, h.n2, h.n3, h.n4⟩
theorem RdS.num {w : World} {r gx pb : Nat} {P : Array Value} {a : Option Addr} {L cap : Nat} {xs : List Nat} {X : Array Value} {s s' : St} {W W' : World} (h : RdS w r gx pb P a L cap xs X s W) (hr : RrRet r a L cap s' W W') : RdS w r gx pb P a L cap xs X s' W' := by
  obtain ⟨p, ho, -⟩ := h.rd
  exact ⟨hr.1, h.ox.fr hr.2 (fun e => h.n2 e.symm), h.ot.fr hr.2 (fun e => by have := h.n1; omega), h.op.imp id (fun q => q.fr hr.2 (fun e => q.ne ho (by decide) e)), h.lies.fr hr.2 (fun b off e q => by have := h.n4 b off e; have := h.n1; omega), below_fr h.bel hr.2 (fun g e => by have := h.n1; omega), h.n1, h.n2, h.n3, h.n4⟩
theorem RdS.set {w : World} {r gx pb : Nat} {P : Array Value} {a : Option Addr} {L cap : Nat} {xs : List Nat} {X : Array Value} {s : St} {W : World} (h : RdS w r gx pb P a L cap xs X s W) (i : Nat) (v : Value) : RdS w r gx pb P a L cap xs (X.setIfInBounds i v) s (W.setCell ⟨gx, i, none⟩ v) := by
  have f : Fr (fun b => b = gx) W (W.setCell ⟨gx, i, none⟩ v) := (Fr.refl (fun b => b = gx) W).set (g := gx) (.inr rfl) i v
  exact ⟨h.rd.fr f h.n2, h.ox.set i v, h.ot.fr f (fun e => by have := h.n3; omega), h.op.imp id (fun q => q.fr f (fun e => q.ne h.ox (by decide) e)), h.lies.fr f (fun b off e q => by have := h.n4 b off e; have := h.n3; omega), below_fr h.bel f (fun g e => by have := h.n3; omega), h.n1, h.n2, h.n3, h.n4⟩
theorem own_put4n {w : World} {g : Nat} {t : TypeId} {a0 a1 a2 a3 : Value} (h : Own w g #[a0, a1, a2, a3] t) (b0 b1 b2 b3 : Value) : Own ((((w.setCell ⟨g, 0, none⟩ b0).setCell ⟨g, 1, none⟩ b1).setCell ⟨g, 2, none⟩ b2).setCell ⟨g, 3, none⟩ b3) g #[b0, b1, b2, b3] t := own_put4 h b0 b1 b2 b3
theorem fr_put4n (w : World) (g : Nat) (b0 b1 b2 b3 : Value) : Fr (fun k => k = g) w ((((w.setCell ⟨g, 0, none⟩ b0).setCell ⟨g, 1, none⟩ b1).setCell ⟨g, 2, none⟩ b2).setCell ⟨g, 3, none⟩ b3) :=
  ((((Fr.refl (fun k => k = g) w).set (g := g) (.inr rfl) 0 b0).set (g := g) (.inr rfl) 1 b1).set (g := g) (.inr rfl) 2 b2).set (g := g) (.inr rfl) 3 b3
theorem armsR_in (k : Nm) (xs : List Nat) : ∀ n (s : St), (s.2 = 0 → s.1 ≤ xs.length) → (armsR k xs n s).2.2 = 0 → (armsR k xs n s).2.1 ≤ xs.length := by
  intro n
  induction n with
  | zero => intro s h q; exact h q
  | succ n ih =>
    intro s h q
    have h2 : (nPlace.rd xs (k.rd xs s).2).2.2 = 0 → (nPlace.rd xs (k.rd xs s).2).2.1 ≤ xs.length := rd_in (rd_in h)
    unfold armsR at q ⊢
    simp only at q ⊢
    split
    · rename_i hb; rw [if_pos hb] at q; exact absurd q hb
    · rename_i hb
      rw [if_neg hb] at q
      split
      · rename_i hc; rw [if_pos hc] at q; exact absurd q hc
      · rename_i hc; rw [if_neg hc] at q; exact ih _ h2 q
theorem own8r {w : World} {g : Nat} {a0 a1 a2 a3 a4 a5 a6 a7 : Value} {t : TypeId} (h : Own w g #[a0, a1, a2, a3, a4, a5, a6, a7] t) : w.cell? ⟨g, 0, none⟩ = some a0 ∧ w.cell? ⟨g, 1, none⟩ = some a1 ∧ w.cell? ⟨g, 2, none⟩ = some a2 ∧ w.cell? ⟨g, 3, none⟩ = some a3 ∧ w.cell? ⟨g, 4, none⟩ = some a4 ∧ w.cell? ⟨g, 5, none⟩ = some a5 ∧ w.cell? ⟨g, 6, none⟩ = some a6 ∧ w.cell? ⟨g, 7, none⟩ = some a7 := ⟨h.cell 0, h.cell 1, h.cell 2, h.cell 3, h.cell 4, h.cell 5, h.cell 6, h.cell 7⟩
set_option maxHeartbeats 1000000 in
theorem rdec_bad_place {w : World} {a : Option Addr} {L cap : Nat} {xs : List Nat} (hL : L = xs.length) (p : Int) (h : p < 0 ∨ (xs.length : Int) ≤ p) :
    Calls Tryd.prog 19 #[.slice a L cap, .int .i64 p] w (DecRet w (dec xs p)) := by
  rw [dec_out xs p h, ← hL] at *
  have HZ : Hid (DecRet w (zI, 0, 2) (.returned (.tuple #[.agg zX, .int .i64 0, .int .i64 2])) (w.alloc (.cells zX 24))) := ⟨_, rfl, World.ownsRow_nil _ _ _ _, by simp [Value.ownBlock], new_below _ _⟩
  by_cases h1 : p < 0
  · clear h hL
    go_enter Tryd.func19, Tryd.ntmps19
    go_wp2
    refine bodyPost_cell3 (g := w.heap.size) (t := 24) rfl rfl rfl (heap_alloc_new w _) Tryd.underlying24 rfl (by kernel_rfl) ?_
    exact HZ.out
  · have h2 : (L : Int) ≤ p := by omega
    clear h hL
    go_enter Tryd.func19, Tryd.ntmps19
    go_wp2
    refine bodyPost_cell3 (g := w.heap.size) (t := 24) rfl rfl rfl (heap_alloc_new w _) Tryd.underlying24 rfl (by kernel_rfl) ?_
    exact HZ.out
set_option maxHeartbeats 2000000 in
set_option maxRecDepth 100000 in
theorem rdec_no_op {w : World} {b off L cap : Nat} {xs : List Nat} (hL : L = xs.length) (p : Nat) (hp : p < L) (c : Nat) (hcc : xs.getD p 0 = c) (hc : w.cell? ⟨b, off + p, none⟩ = some (.int .u8 (c : Int))) (hmax : L ≤ 9223372036854775807) (h256 : c < 256) (hn : lay c = none) :
    Calls Tryd.prog 19 #[.slice (some ⟨b, off, none⟩) L cap, .int .i64 (p : Int)] w (DecRet w (dec xs p)) := by
  rw [dec_none xs p (by omega) (by rw [hcc]; exact hn)]
  have hbl := World.block_lt_of_cell? w _ hc
  have hc2 : (w.alloc (.cells zX 24)).cell? ⟨b, off + p, none⟩ = some (.int .u8 (c : Int)) := (Below.cell (new_below w _) hbl).trans hc
  have o4 := Own.new w zX 24
  have hbel := new_below w (.cells zX 24)
  have HP : Hid (∀ W, Calls Tryd.prog 34 #[.int .u8 (c : Int)] W (RpRet (prt c) false W)) := by
    intro W
    have := rparts_as c h256 W
    rw [hn] at this
    exact this
  generalize prt c = PS at *
  clear hcc hn hc hbl hL
  generalize (c : Int) = C at *
  have hpi : (p : Int) < (L : Int) := by omega
  go_enter Tryd.func19, Tryd.ntmps19
  go_upto_region 1 with fail
  generalize w.alloc (.cells zX 24) = w1 at *
  go_wp2_with fail
  refine Calls.mono (HP.out w1) ?_
  rintro e w2 ⟨pa, m, c2, rfl, -, b2⟩
  replace o4 := o4.below b2
  replace hbel := hbel.trans (b2.mono hbel.size)
  obtain ⟨y0, y1, y2, y3, yf⟩ := own4 o4
  have HZ : Hid (∀ wz, Fr (fun g => g = w.heap.size) w2 wz → DecRet w (zI, 0, 120) (.returned (.tuple #[.agg zX, .int .i64 0, .int .i64 120])) wz) := fun wz fz => ⟨_, rfl, World.ownsRow_nil _ _ _ _, by simp [Value.ownBlock], below_fr hbel fz (fun g e => by rw [e]; exact Nat.le_refl _)⟩
  clear hc2 b2 HP
  go_wp2_with fail
  refine bodyPost_cell3 (g := w.heap.size) (t := 24) rfl rfl rfl (own_put4n o4 _ _ _ _) Tryd.underlying24 rfl (by kernel_rfl) ?_
  exact HZ.out _ (fr_put4n _ _ _ _ _ _)
set_option maxHeartbeats 4000000 in
set_option maxRecDepth 100000 in
theorem rdec_0 {w : World} {b off L cap : Nat} {xs : List Nat} (hl : Lies w (some ⟨b, off, none⟩) xs) (hL : L = xs.length) (p : Nat) (hp : p < L) (c : Nat) (hcc : xs.getD p 0 = c) (hc : w.cell? ⟨b, off + p, none⟩ = some (.int .u8 (c : Int))) (h256 : c < 256) (l : Lay) (hn : lay c = some l) (hps : prt c = []) (hop : c ≠ 49) (ha : l.a = nNone) (hb : l.b = nNone) (har : l.arms = false) :
    Calls Tryd.prog 19 #[.slice (some ⟨b, off, none⟩) L cap, .int .i64 (p : Int)] w (DecRet w (dec xs p)) := by
  have hmax : L ≤ 9223372036854775807 := by rw [hL]; exact hl.2.1
  have hbl := World.block_lt_of_cell? w _ hc
  have hb0 : b < w.heap.size := hbl
  have hR : dec xs p = (⟨c, 0, 0, []⟩, p + 1, 0) := by
    rw [dec_some xs p (by omega) l (by rw [hcc]; exact hn), hcc]
    simp only [Lay.rd, Lay.rdArms, ha, hb, har]
    rfl
  obtain ⟨s3, hs3⟩ : ∃ s3 : St, s3 = (p + 1, 0) := ⟨_, rfl⟩
  have hR2 : dec xs p = if s3.2 ≠ 0 then (zI, 0, s3.2) else (⟨c, 0, 0, []⟩, s3.1, 0) := by rw [hR, hs3]; rfl
  obtain ⟨R, HR⟩ : ∃ R, Hid (dec xs p = R) := ⟨_, rfl⟩
  rw [HR.out]
  have HRR : Hid (R = if s3.2 ≠ 0 then (zI, 0, s3.2) else (⟨c, 0, 0, []⟩, s3.1, 0)) := HR.out.symm.trans hR2
  clear hR2 HR
  have HP : Hid (∀ W, Calls Tryd.prog 34 #[.int .u8 (c : Int)] W (RpRet [] true W)) := by
    intro W
    have := rparts_as c h256 W
    rw [hn, hps] at this
    exact this
  have hc2 : (w.alloc (.cells zX 24)).cell? ⟨b, off + p, none⟩ = some (.int .u8 (c : Int)) := (Below.cell (new_below w _) hbl).trans hc
  have o4 := Own.new w zX 24
  have hbel := new_below w (.cells zX 24)
  have HLi : Hid (Lies w (some ⟨b, off, none⟩) xs) := hl
  have HC0 : Hid (c ≠ 49) := hop
  clear hcc hn hc hps hL hl ha hb har hop
  obtain ⟨C, HC⟩ : ∃ C : Int, Hid ((c : Int) = C) := ⟨_, rfl⟩
  have hC49 : (C == 49) = false := by rw [← HC.out]; have := HC0.out; simp; omega
  rw [HC.out] at hc2 HP
  have hpi : (p : Int) < (L : Int) := by omega
  go_enter Tryd.func19, Tryd.ntmps19
  go_upto_region 1 with fail
  generalize w.alloc (.cells zX 24) = w1 at *
  go_wp2_with fail
  refine Calls.mono (HP.out w1) ?_
  rintro e w2 ⟨pa, m, cq, rfl, hpl, b2⟩
  have hc3 : w2.cell? ⟨b, off + p, none⟩ = some (.int .u8 C) := (Below.cell (p := ⟨b, off + p, none⟩) b2 (World.block_lt_of_cell? w1 _ hc2)).trans hc2
  replace o4 := o4.below b2
  replace hbel := hbel.trans (b2.mono hbel.size)
  have hm0 : m = 0 := hpl.1
  subst hm0
  obtain ⟨pb, hpb⟩ : ∃ pb : Nat, pb = 0 := ⟨_, rfl⟩
  have S2 : RdS w w2.heap.size (w2.heap.size + 1) pb #[] (some ⟨b, off, none⟩) L cap xs #[.int .u8 C, .int .i64 0, .int .i64 0, .slice none 0 0] (p + 1, 0) ((w2.alloc (.cells #[.slice (some ⟨b, off, none⟩) L cap, .int .i64 ((p : Int) + 1), .int .i64 0] 84)).alloc (.cells #[.int .u8 C, .int .i64 0, .int .i64 0, .slice none 0 0] 24)) := by
    have hw := o4.lt
    have hbb := (new_below w2 (.cells #[.slice (some ⟨b, off, none⟩) L cap, .int .i64 ((p : Int) + 1), .int .i64 0] 84)).alloc (by simp) (.cells #[.int .u8 C, .int .i64 0, .int .i64 0, .slice none 0 0] 24)
    refine ⟨⟨_, (Own.new w2 _ _).alloc _, fun _ => by simp⟩, ?_, (o4.alloc _).alloc _, .inl rfl, HLi.out.below (hbel.trans (hbb.mono hbel.size)), hbel.trans (hbb.mono hbel.size), by omega, by omega, by omega, fun b' off' e => by cases e; exact hb0⟩
    have := Own.new (w2.alloc (.cells #[.slice (some ⟨b, off, none⟩) L cap, .int .i64 ((p : Int) + 1), .int .i64 0] 84)) #[.int .u8 C, .int .i64 0, .int .i64 0, .slice none 0 0] 24
    rw [World.size_alloc] at this
    exact this
  have hc4 : (w2.alloc (.cells #[.slice (some ⟨b, off, none⟩) L cap, .int .i64 ((p : Int) + 1), .int .i64 0] 84)).cell? ⟨b, off + p, none⟩ = some (.int .u8 C) := (Below.cell (p := ⟨b, off + p, none⟩) (new_below w2 _) (World.block_lt_of_cell? w2 _ hc3)).trans hc3
  clear o4 hbel hc2 b2 HP HLi hpl
  go_upto_region 8 with fail
  generalize (w2.alloc (.cells #[.slice (some ⟨b, off, none⟩) L cap, .int .i64 ((p : Int) + 1), .int .i64 0] 84)).alloc (.cells #[.int .u8 C, .int .i64 0, .int .i64 0, .slice none 0 0] 24) = w3 at *
  clear hc3 hc4
  generalize w2.heap.size + 1 = gx at *
  generalize w2.heap.size = r at *
  have S2 : RdS w r gx pb #[] (some ⟨b, off, none⟩) L cap xs #[.int .u8 C, .int .i64 0, .int .i64 0, .slice none 0 0] s3 w3 := by rw [hs3]; exact S2
  obtain ⟨x0, x1, x2, x3, xf⟩ := own4 S2.ox
  obtain ⟨P1, oR, hP1⟩ := S2.rd
  obtain ⟨r0, r1, r2, rf⟩ := own3 oR
  have o49 := S2.ot
  obtain ⟨y0, y1, y2, y3, yf⟩ := own4 o49
  have HZ : Hid (∀ (wz : World) (e : Ending), Fr (fun g => g = w.heap.size) w3 wz → (s3.2 ≠ 0 → e = .returned (.tuple #[insV zI (.slice none 0 0), .int .i64 0, .int .i64 (s3.2 : Int)])) → (s3.2 = 0 → e = .returned (.tuple #[.agg #[.int .u8 C, .int .i64 0, .int .i64 0, .slice none 0 0], .int .i64 P1, .int .i64 0])) → DecRet w R e wz) := by
    intro wz e fz h1 h2
    have hbz := below_fr S2.bel fz (fun g e => by rw [e]; exact Nat.le_refl _)
    rw [HRR.out]
    by_cases q : s3.2 = 0
    · rw [if_neg (by omega), h2 q, hP1 q]
      refine ⟨.slice none 0 0, ?_, World.ownsRow_nil _ _ _ _, by simp [Value.ownBlock], hbz⟩
      unfold insV
      show _ = Ending.returned (.tuple #[.agg #[.int .u8 (c : Int), .int .i64 0, .int .i64 0, .slice none 0 0], .int .i64 (s3.1 : Int), .int .i64 ((0 : Nat) : Int)])
      rw [HC.out]; rfl
    · rw [if_pos q, h1 q]
      exact ⟨_, rfl, World.ownsRow_nil _ _ _ _, by simp [Value.ownBlock], hbz⟩
  have dA : ¬ w.heap.size = gx := by have := S2.n3; omega
  have dB : ¬ w.heap.size = r := by have := S2.n1; omega
  have dC : ¬ gx = w.heap.size := fun e => dA e.symm
  have dD : ¬ r = w.heap.size := fun e => dB e.symm
  clear oR S2 hP1
  by_cases hz3 : s3.2 = 0
  · have hq : (s3.2 : Int) = 0 := by omega
    rw [hq] at r2
    go_wp2_with fail
    go_region_held3 (fun w' => w'.cell? ⟨gx, 0, none⟩ = some (.int .u8 C) ∧ w'.cell? ⟨gx, 1, none⟩ = some (.int .i64 0) ∧ w'.cell? ⟨gx, 2, none⟩ = some (.int .i64 0) ∧ w'.cell? ⟨gx, 3, none⟩ = some (.slice none 0 0) ∧ w'.cell? ⟨r, 1, none⟩ = some (.int .i64 P1)) (go_keep) (fail)
    go_wp2_with fail
    refine bodyPost_cell3 (g := w.heap.size) (t := 24) rfl rfl rfl (own_put4 o49 _ _ _ _) Tryd.underlying24 rfl (by kernel_rfl) ?_
    exact HZ.out _ _ (fr_put4 _ _ _ _ _ _) (fun q => absurd hz3 q) (fun _ => rfl)
  · have hq : (((s3.2 : Nat) : Int) == 0) = false := by simp; omega
    obtain ⟨Q1, HQ1⟩ : ∃ Q1 : Int, Hid ((s3.2 : Int) = Q1) := ⟨_, rfl⟩
    rw [HQ1.out] at r2 HZ hq
    go_wp2_with fail
    go_region_held3 (fun w' => w'.cell? ⟨r, 2, none⟩ = some (.int .i64 Q1)) (go_keep) (fail)
    go_wp2_with fail
    refine bodyPost_cell3 (g := w.heap.size) (t := 24) rfl rfl rfl (own_put4 o49 _ _ _ _) Tryd.underlying24 rfl (by kernel_rfl) ?_
    exact HZ.out _ _ (fr_put4 _ _ _ _ _ _) (fun _ => rfl) (fun q => absurd q hz3)
set_option maxHeartbeats 4000000 in
set_option maxRecDepth 100000 in
theorem rdec_1 {w : World} {b off L cap : Nat} {xs : List Nat} (hl : Lies w (some ⟨b, off, none⟩) xs) (hL : L = xs.length) (p : Nat) (hp : p < L) (c : Nat) (hcc : xs.getD p 0 = c) (hc : w.cell? ⟨b, off + p, none⟩ = some (.int .u8 (c : Int))) (h256 : c < 256) (l : Lay) (hn : lay c = some l) (k : Nm) (hps : prt c = [k]) (hop : c ≠ 49) (hk : NmKind k) (ha : l.a = k) (hb : l.b = nNone) (har : l.arms = false) :
    Calls Tryd.prog 19 #[.slice (some ⟨b, off, none⟩) L cap, .int .i64 (p : Int)] w (DecRet w (dec xs p)) := by
  have hmax : L ≤ 9223372036854775807 := by rw [hL]; exact hl.2.1
  have hbl := World.block_lt_of_cell? w _ hc
  have hb0 : b < w.heap.size := hbl
  cases e1 : k.rd xs (p + 1, 0) with
  | mk V1 s3 =>
  have hR2 : dec xs p = if s3.2 ≠ 0 then (zI, 0, s3.2) else (⟨c, V1, 0, []⟩, s3.1, 0) := by
    rw [dec_some xs p (by omega) l (by rw [hcc]; exact hn), hcc]
    have hz : ∀ s : St, nNone.rd xs s = (0, s) := fun s => by unfold Nm.rd; rw [if_pos (.inr rfl)]
    simp only [Lay.rd, Lay.rdArms, ha, hb, har, e1, hz]
    rfl
  obtain ⟨R, HR⟩ : ∃ R, Hid (dec xs p = R) := ⟨_, rfl⟩
  rw [HR.out]
  have HRR : Hid (R = if s3.2 ≠ 0 then (zI, 0, s3.2) else (⟨c, V1, 0, []⟩, s3.1, 0)) := HR.out.symm.trans hR2
  clear hR2 HR
  have HP : Hid (∀ W, Calls Tryd.prog 34 #[.int .u8 (c : Int)] W (RpRet [k] true W)) := by
    intro W
    have := rparts_as c h256 W
    rw [hn, hps] at this
    exact this
  have C1 : Hid (∀ W r, RrAt W r (some ⟨b, off, none⟩) L cap (p + 1, 0) → Lies W (some ⟨b, off, none⟩) xs → Calls Tryd.prog 42 #[ptr r, .agg #[.int .i64 (k.sz : Int), .int .i64 k.lo, .int .i64 k.hi, .bool k.sg]] W fun e w' => e = .returned (.int .i64 V1) ∧ RrRet r (some ⟨b, off, none⟩) L cap s3 W w') := by
    intro W r h1 h2
    have := rrnum_as hk h2 hL h1 (fun _ => by show p + 1 ≤ L; omega)
    rw [e1] at this
    exact this
  have hc2 : (w.alloc (.cells zX 24)).cell? ⟨b, off + p, none⟩ = some (.int .u8 (c : Int)) := (Below.cell (new_below w _) hbl).trans hc
  have o4 := Own.new w zX 24
  have hbel := new_below w (.cells zX 24)
  have HLi : Hid (Lies w (some ⟨b, off, none⟩) xs) := hl
  have HC0 : Hid (c ≠ 49) := hop
  clear e1 hk hcc hn hc hps hL hl ha hb har hop
  obtain ⟨C, HC⟩ : ∃ C : Int, Hid ((c : Int) = C) := ⟨_, rfl⟩
  have hC49 : (C == 49) = false := by rw [← HC.out]; have := HC0.out; simp; omega
  rw [HC.out] at hc2 HP
  have hpi : (p : Int) < (L : Int) := by omega
  have HPL : Hid (∀ W ao n, PartLies W ao n [k] → n = 1 ∧ ∃ pb, ao = some ⟨pb, 0, none⟩ ∧ Own W pb #[.int .i64 (k.sz : Int), .int .i64 k.lo, .int .i64 k.hi, .bool k.sg] 67) := by
    rintro W ao n ⟨hm, hpl⟩
    obtain ⟨pb, e, oP⟩ := hpl.resolve_left (by simp)
    exact ⟨hm, pb, e, oP⟩
  generalize (k.sz : Int) = z at *
  generalize k.lo = lo at *
  generalize k.hi = hi at *
  generalize k.sg = sg at *
  go_enter Tryd.func19, Tryd.ntmps19
  go_upto_region 1 with fail
  generalize w.alloc (.cells zX 24) = w1 at *
  go_wp2_with fail
  refine Calls.mono (HP.out w1) ?_
  rintro e w2 ⟨pa, m, cq, rfl, hpl, b2⟩
  have hc3 : w2.cell? ⟨b, off + p, none⟩ = some (.int .u8 C) := (Below.cell (p := ⟨b, off + p, none⟩) b2 (World.block_lt_of_cell? w1 _ hc2)).trans hc2
  replace o4 := o4.below b2
  replace hbel := hbel.trans (b2.mono hbel.size)
  obtain ⟨hm0, pb, rfl, oP⟩ := HPL.out w2 pa m hpl
  subst hm0
  have S2 : RdS w w2.heap.size (w2.heap.size + 1) pb #[.int .i64 z, .int .i64 lo, .int .i64 hi, .bool sg] (some ⟨b, off, none⟩) L cap xs #[.int .u8 C, .int .i64 0, .int .i64 0, .slice none 0 0] (p + 1, 0) ((w2.alloc (.cells #[.slice (some ⟨b, off, none⟩) L cap, .int .i64 ((p : Int) + 1), .int .i64 0] 84)).alloc (.cells #[.int .u8 C, .int .i64 0, .int .i64 0, .slice none 0 0] 24)) := by
    have hw := o4.lt
    have hbb := (new_below w2 (.cells #[.slice (some ⟨b, off, none⟩) L cap, .int .i64 ((p : Int) + 1), .int .i64 0] 84)).alloc (by simp) (.cells #[.int .u8 C, .int .i64 0, .int .i64 0, .slice none 0 0] 24)
    refine ⟨⟨_, (Own.new w2 _ _).alloc _, fun _ => by simp⟩, ?_, (o4.alloc _).alloc _, .inr ((oP.alloc _).alloc _), HLi.out.below (hbel.trans (hbb.mono hbel.size)), hbel.trans (hbb.mono hbel.size), by omega, by omega, by omega, fun b' off' e => by cases e; exact hb0⟩
    have := Own.new (w2.alloc (.cells #[.slice (some ⟨b, off, none⟩) L cap, .int .i64 ((p : Int) + 1), .int .i64 0] 84)) #[.int .u8 C, .int .i64 0, .int .i64 0, .slice none 0 0] 24
    rw [World.size_alloc] at this
    exact this
  have hc4 : (w2.alloc (.cells #[.slice (some ⟨b, off, none⟩) L cap, .int .i64 ((p : Int) + 1), .int .i64 0] 84)).cell? ⟨b, off + p, none⟩ = some (.int .u8 C) := (Below.cell (p := ⟨b, off + p, none⟩) (new_below w2 _) (World.block_lt_of_cell? w2 _ hc3)).trans hc3
  clear o4 hbel hc2 b2 HP HLi hpl
  go_upto_region 8 with fail
  generalize (w2.alloc (.cells #[.slice (some ⟨b, off, none⟩) L cap, .int .i64 ((p : Int) + 1), .int .i64 0] 84)).alloc (.cells #[.int .u8 C, .int .i64 0, .int .i64 0, .slice none 0 0] 24) = w3 at *
  clear hc3 hc4
  generalize w2.heap.size + 1 = gx at *
  generalize w2.heap.size = r at *
  obtain ⟨p0, p1, p2, p3, pf⟩ := own4 (S2.op.resolve_left (by simp))
  go_wp2_with fail
  refine Calls.mono (C1.out w3 r S2.rd S2.lies) ?_
  rintro e w4 ⟨rfl, r4⟩
  have S4 := S2.num r4
  clear p0 p1 p2 p3 pf
  clear r4 S2 C1
  have S5 := S4.set 1 (.int .i64 V1)
  obtain ⟨x0, x1, x2, x3, xf⟩ := own4 S4.ox
  go_upto_region 10 with fail
  generalize w4.setCell ⟨gx, 1, none⟩ (.int .i64 V1) = w5 at *
  clear x0 x1 x2 x3 xf S4
  have S5 : RdS w r gx pb #[.int .i64 z, .int .i64 lo, .int .i64 hi, .bool sg] (some ⟨b, off, none⟩) L cap xs #[.int .u8 C, .int .i64 V1, .int .i64 0, .slice none 0 0] s3 w5 := S5
  obtain ⟨x0, x1, x2, x3, xf⟩ := own4 S5.ox
  obtain ⟨P1, oR, hP1⟩ := S5.rd
  obtain ⟨r0, r1, r2, rf⟩ := own3 oR
  have o49 := S5.ot
  obtain ⟨y0, y1, y2, y3, yf⟩ := own4 o49
  have HZ : Hid (∀ (wz : World) (e : Ending), Fr (fun g => g = w.heap.size) w5 wz → (s3.2 ≠ 0 → e = .returned (.tuple #[insV zI (.slice none 0 0), .int .i64 0, .int .i64 (s3.2 : Int)])) → (s3.2 = 0 → e = .returned (.tuple #[.agg #[.int .u8 C, .int .i64 V1, .int .i64 0, .slice none 0 0], .int .i64 P1, .int .i64 0])) → DecRet w R e wz) := by
    intro wz e fz h1 h2
    have hbz := below_fr S5.bel fz (fun g e => by rw [e]; exact Nat.le_refl _)
    rw [HRR.out]
    by_cases q : s3.2 = 0
    · rw [if_neg (by omega), h2 q, hP1 q]
      refine ⟨.slice none 0 0, ?_, World.ownsRow_nil _ _ _ _, by simp [Value.ownBlock], hbz⟩
      unfold insV
      show _ = Ending.returned (.tuple #[.agg #[.int .u8 (c : Int), .int .i64 V1, .int .i64 0, .slice none 0 0], .int .i64 (s3.1 : Int), .int .i64 ((0 : Nat) : Int)])
      rw [HC.out]; rfl
    · rw [if_pos q, h1 q]
      exact ⟨_, rfl, World.ownsRow_nil _ _ _ _, by simp [Value.ownBlock], hbz⟩
  have dA : ¬ w.heap.size = gx := by have := S5.n3; omega
  have dB : ¬ w.heap.size = r := by have := S5.n1; omega
  have dC : ¬ gx = w.heap.size := fun e => dA e.symm
  have dD : ¬ r = w.heap.size := fun e => dB e.symm
  clear oR S5 hP1
  by_cases hz3 : s3.2 = 0
  · have hq : (s3.2 : Int) = 0 := by omega
    rw [hq] at r2
    go_wp2_with fail
    go_region_held3 (fun w' => w'.cell? ⟨gx, 0, none⟩ = some (.int .u8 C) ∧ w'.cell? ⟨gx, 1, none⟩ = some (.int .i64 V1) ∧ w'.cell? ⟨gx, 2, none⟩ = some (.int .i64 0) ∧ w'.cell? ⟨gx, 3, none⟩ = some (.slice none 0 0) ∧ w'.cell? ⟨r, 1, none⟩ = some (.int .i64 P1)) (go_keep) (fail)
    go_wp2_with fail
    refine bodyPost_cell3 (g := w.heap.size) (t := 24) rfl rfl rfl (own_put4 o49 _ _ _ _) Tryd.underlying24 rfl (by kernel_rfl) ?_
    exact HZ.out _ _ (fr_put4 _ _ _ _ _ _) (fun q => absurd hz3 q) (fun _ => rfl)
  · have hq : (((s3.2 : Nat) : Int) == 0) = false := by simp; omega
    obtain ⟨Q1, HQ1⟩ : ∃ Q1 : Int, Hid ((s3.2 : Int) = Q1) := ⟨_, rfl⟩
    rw [HQ1.out] at r2 HZ hq
    go_wp2_with fail
    go_region_held3 (fun w' => w'.cell? ⟨r, 2, none⟩ = some (.int .i64 Q1)) (go_keep) (fail)
    go_wp2_with fail
    refine bodyPost_cell3 (g := w.heap.size) (t := 24) rfl rfl rfl (own_put4 o49 _ _ _ _) Tryd.underlying24 rfl (by kernel_rfl) ?_
    exact HZ.out _ _ (fr_put4 _ _ _ _ _ _) (fun _ => rfl) (fun q => absurd q hz3)
set_option maxHeartbeats 4000000 in
set_option maxRecDepth 100000 in
theorem rdec_2 {w : World} {b off L cap : Nat} {xs : List Nat} (hl : Lies w (some ⟨b, off, none⟩) xs) (hL : L = xs.length) (p : Nat) (hp : p < L) (c : Nat) (hcc : xs.getD p 0 = c) (hc : w.cell? ⟨b, off + p, none⟩ = some (.int .u8 (c : Int))) (h256 : c < 256) (l : Lay) (hn : lay c = some l) (k j : Nm) (hps : prt c = [k, j]) (hop : c ≠ 49) (hk : NmKind k) (hj : NmKind j) (ha : l.a = k) (hb : l.b = j) (har : l.arms = false) :
    Calls Tryd.prog 19 #[.slice (some ⟨b, off, none⟩) L cap, .int .i64 (p : Int)] w (DecRet w (dec xs p)) := by
  have hmax : L ≤ 9223372036854775807 := by rw [hL]; exact hl.2.1
  have hbl := World.block_lt_of_cell? w _ hc
  have hb0 : b < w.heap.size := hbl
  cases e1 : k.rd xs (p + 1, 0) with
  | mk V1 s1 =>
  cases e2 : j.rd xs s1 with
  | mk V2 s3 =>
  have hR2 : dec xs p = if s3.2 ≠ 0 then (zI, 0, s3.2) else (⟨c, V1, V2, []⟩, s3.1, 0) := by
    rw [dec_some xs p (by omega) l (by rw [hcc]; exact hn), hcc]
    simp only [Lay.rd, Lay.rdArms, ha, hb, har, e1, if_neg (show ¬ (false = true) by simp), e2]
  have hs1 : s1.2 = 0 → s1.1 ≤ xs.length := by have := rd_in (k := k) (xs := xs) (s := (p + 1, 0)) (fun _ => by show p + 1 ≤ _; omega); rw [e1] at this; exact this
  obtain ⟨R, HR⟩ : ∃ R, Hid (dec xs p = R) := ⟨_, rfl⟩
  rw [HR.out]
  have HRR : Hid (R = if s3.2 ≠ 0 then (zI, 0, s3.2) else (⟨c, V1, V2, []⟩, s3.1, 0)) := HR.out.symm.trans hR2
  clear hR2 HR
  have HP : Hid (∀ W, Calls Tryd.prog 34 #[.int .u8 (c : Int)] W (RpRet [k, j] true W)) := by
    intro W
    have := rparts_as c h256 W
    rw [hn, hps] at this
    exact this
  have C1 : Hid (∀ W r, RrAt W r (some ⟨b, off, none⟩) L cap (p + 1, 0) → Lies W (some ⟨b, off, none⟩) xs → Calls Tryd.prog 42 #[ptr r, .agg #[.int .i64 (k.sz : Int), .int .i64 k.lo, .int .i64 k.hi, .bool k.sg]] W fun e w' => e = .returned (.int .i64 V1) ∧ RrRet r (some ⟨b, off, none⟩) L cap s1 W w') := by
    intro W r h1 h2
    have := rrnum_as hk h2 hL h1 (fun _ => by show p + 1 ≤ L; omega)
    rw [e1] at this
    exact this
  have C2 : Hid (∀ W r, RrAt W r (some ⟨b, off, none⟩) L cap s1 → Lies W (some ⟨b, off, none⟩) xs → Calls Tryd.prog 42 #[ptr r, .agg #[.int .i64 (j.sz : Int), .int .i64 j.lo, .int .i64 j.hi, .bool j.sg]] W fun e w' => e = .returned (.int .i64 V2) ∧ RrRet r (some ⟨b, off, none⟩) L cap s3 W w') := by
    intro W r h1 h2
    have := rrnum_as hj h2 hL h1 (by rw [hL]; exact hs1)
    rw [e2] at this
    exact this
  have hc2 : (w.alloc (.cells zX 24)).cell? ⟨b, off + p, none⟩ = some (.int .u8 (c : Int)) := (Below.cell (new_below w _) hbl).trans hc
  have o4 := Own.new w zX 24
  have hbel := new_below w (.cells zX 24)
  have HLi : Hid (Lies w (some ⟨b, off, none⟩) xs) := hl
  have HC0 : Hid (c ≠ 49) := hop
  clear e1 e2 hk hj hs1 hcc hn hc hps hL hl ha hb har hop
  obtain ⟨C, HC⟩ : ∃ C : Int, Hid ((c : Int) = C) := ⟨_, rfl⟩
  have hC49 : (C == 49) = false := by rw [← HC.out]; have := HC0.out; simp; omega
  rw [HC.out] at hc2 HP
  have hpi : (p : Int) < (L : Int) := by omega
  have HPL : Hid (∀ W ao n, PartLies W ao n [k, j] → n = 2 ∧ ∃ pb, ao = some ⟨pb, 0, none⟩ ∧ Own W pb #[.int .i64 (k.sz : Int), .int .i64 k.lo, .int .i64 k.hi, .bool k.sg, .int .i64 (j.sz : Int), .int .i64 j.lo, .int .i64 j.hi, .bool j.sg] 67) := by
    rintro W ao n ⟨hm, hpl⟩
    obtain ⟨pb, e, oP⟩ := hpl.resolve_left (by simp)
    exact ⟨hm, pb, e, oP⟩
  generalize (k.sz : Int) = z at *
  generalize k.lo = lo at *
  generalize k.hi = hi at *
  generalize k.sg = sg at *
  generalize (j.sz : Int) = z' at *
  generalize j.lo = lo' at *
  generalize j.hi = hi' at *
  generalize j.sg = sg' at *
  go_enter Tryd.func19, Tryd.ntmps19
  go_upto_region 1 with fail
  generalize w.alloc (.cells zX 24) = w1 at *
  go_wp2_with fail
  refine Calls.mono (HP.out w1) ?_
  rintro e w2 ⟨pa, m, cq, rfl, hpl, b2⟩
  have hc3 : w2.cell? ⟨b, off + p, none⟩ = some (.int .u8 C) := (Below.cell (p := ⟨b, off + p, none⟩) b2 (World.block_lt_of_cell? w1 _ hc2)).trans hc2
  replace o4 := o4.below b2
  replace hbel := hbel.trans (b2.mono hbel.size)
  obtain ⟨hm0, pb, rfl, oP⟩ := HPL.out w2 pa m hpl
  subst hm0
  have S2 : RdS w w2.heap.size (w2.heap.size + 1) pb #[.int .i64 z, .int .i64 lo, .int .i64 hi, .bool sg, .int .i64 z', .int .i64 lo', .int .i64 hi', .bool sg'] (some ⟨b, off, none⟩) L cap xs #[.int .u8 C, .int .i64 0, .int .i64 0, .slice none 0 0] (p + 1, 0) ((w2.alloc (.cells #[.slice (some ⟨b, off, none⟩) L cap, .int .i64 ((p : Int) + 1), .int .i64 0] 84)).alloc (.cells #[.int .u8 C, .int .i64 0, .int .i64 0, .slice none 0 0] 24)) := by
    have hw := o4.lt
    have hbb := (new_below w2 (.cells #[.slice (some ⟨b, off, none⟩) L cap, .int .i64 ((p : Int) + 1), .int .i64 0] 84)).alloc (by simp) (.cells #[.int .u8 C, .int .i64 0, .int .i64 0, .slice none 0 0] 24)
    refine ⟨⟨_, (Own.new w2 _ _).alloc _, fun _ => by simp⟩, ?_, (o4.alloc _).alloc _, .inr ((oP.alloc _).alloc _), HLi.out.below (hbel.trans (hbb.mono hbel.size)), hbel.trans (hbb.mono hbel.size), by omega, by omega, by omega, fun b' off' e => by cases e; exact hb0⟩
    have := Own.new (w2.alloc (.cells #[.slice (some ⟨b, off, none⟩) L cap, .int .i64 ((p : Int) + 1), .int .i64 0] 84)) #[.int .u8 C, .int .i64 0, .int .i64 0, .slice none 0 0] 24
    rw [World.size_alloc] at this
    exact this
  have hc4 : (w2.alloc (.cells #[.slice (some ⟨b, off, none⟩) L cap, .int .i64 ((p : Int) + 1), .int .i64 0] 84)).cell? ⟨b, off + p, none⟩ = some (.int .u8 C) := (Below.cell (p := ⟨b, off + p, none⟩) (new_below w2 _) (World.block_lt_of_cell? w2 _ hc3)).trans hc3
  clear o4 hbel hc2 b2 HP HLi hpl
  go_upto_region 8 with fail
  generalize (w2.alloc (.cells #[.slice (some ⟨b, off, none⟩) L cap, .int .i64 ((p : Int) + 1), .int .i64 0] 84)).alloc (.cells #[.int .u8 C, .int .i64 0, .int .i64 0, .slice none 0 0] 24) = w3 at *
  clear hc3 hc4
  generalize w2.heap.size + 1 = gx at *
  generalize w2.heap.size = r at *
  obtain ⟨p0, p1, p2, p3, p4, p5, p6, p7⟩ := own8r (S2.op.resolve_left (by simp))
  go_wp2_with fail
  refine Calls.mono (C1.out w3 r S2.rd S2.lies) ?_
  rintro e w4 ⟨rfl, r4⟩
  have S4 := S2.num r4
  clear p0 p1 p2 p3 p4 p5 p6 p7
  clear r4 S2 C1
  have S5 := S4.set 1 (.int .i64 V1)
  obtain ⟨x0, x1, x2, x3, xf⟩ := own4 S4.ox
  go_upto_region 10 with fail
  generalize w4.setCell ⟨gx, 1, none⟩ (.int .i64 V1) = w5 at *
  clear x0 x1 x2 x3 xf S4
  have S5 : RdS w r gx pb #[.int .i64 z, .int .i64 lo, .int .i64 hi, .bool sg, .int .i64 z', .int .i64 lo', .int .i64 hi', .bool sg'] (some ⟨b, off, none⟩) L cap xs #[.int .u8 C, .int .i64 V1, .int .i64 0, .slice none 0 0] s1 w5 := S5
  obtain ⟨p0, p1, p2, p3, p4, p5, p6, p7⟩ := own8r (S5.op.resolve_left (by simp))
  go_wp2_with fail
  refine Calls.mono (C2.out w5 r S5.rd S5.lies) ?_
  rintro e w6 ⟨rfl, r6⟩
  have S6 := S5.num r6
  clear p0 p1 p2 p3 p4 p5 p6 p7
  clear r6 S5 C2
  have S7 := S6.set 2 (.int .i64 V2)
  obtain ⟨x0, x1, x2, x3, xf⟩ := own4 S6.ox
  go_upto_region 12 with fail
  generalize w6.setCell ⟨gx, 2, none⟩ (.int .i64 V2) = w7 at *
  clear x0 x1 x2 x3 xf S6
  have S7 : RdS w r gx pb #[.int .i64 z, .int .i64 lo, .int .i64 hi, .bool sg, .int .i64 z', .int .i64 lo', .int .i64 hi', .bool sg'] (some ⟨b, off, none⟩) L cap xs #[.int .u8 C, .int .i64 V1, .int .i64 V2, .slice none 0 0] s3 w7 := S7
  obtain ⟨x0, x1, x2, x3, xf⟩ := own4 S7.ox
  obtain ⟨P1, oR, hP1⟩ := S7.rd
  obtain ⟨r0, r1, r2, rf⟩ := own3 oR
  have o49 := S7.ot
  obtain ⟨y0, y1, y2, y3, yf⟩ := own4 o49
  have HZ : Hid (∀ (wz : World) (e : Ending), Fr (fun g => g = w.heap.size) w7 wz → (s3.2 ≠ 0 → e = .returned (.tuple #[insV zI (.slice none 0 0), .int .i64 0, .int .i64 (s3.2 : Int)])) → (s3.2 = 0 → e = .returned (.tuple #[.agg #[.int .u8 C, .int .i64 V1, .int .i64 V2, .slice none 0 0], .int .i64 P1, .int .i64 0])) → DecRet w R e wz) := by
    intro wz e fz h1 h2
    have hbz := below_fr S7.bel fz (fun g e => by rw [e]; exact Nat.le_refl _)
    rw [HRR.out]
    by_cases q : s3.2 = 0
    · rw [if_neg (by omega), h2 q, hP1 q]
      refine ⟨.slice none 0 0, ?_, World.ownsRow_nil _ _ _ _, by simp [Value.ownBlock], hbz⟩
      unfold insV
      show _ = Ending.returned (.tuple #[.agg #[.int .u8 (c : Int), .int .i64 V1, .int .i64 V2, .slice none 0 0], .int .i64 (s3.1 : Int), .int .i64 ((0 : Nat) : Int)])
      rw [HC.out]; rfl
    · rw [if_pos q, h1 q]
      exact ⟨_, rfl, World.ownsRow_nil _ _ _ _, by simp [Value.ownBlock], hbz⟩
  have dA : ¬ w.heap.size = gx := by have := S7.n3; omega
  have dB : ¬ w.heap.size = r := by have := S7.n1; omega
  have dC : ¬ gx = w.heap.size := fun e => dA e.symm
  have dD : ¬ r = w.heap.size := fun e => dB e.symm
  clear oR S7 hP1
  by_cases hz3 : s3.2 = 0
  · have hq : (s3.2 : Int) = 0 := by omega
    rw [hq] at r2
    go_wp2_with fail
    go_region_held3 (fun w' => w'.cell? ⟨gx, 0, none⟩ = some (.int .u8 C) ∧ w'.cell? ⟨gx, 1, none⟩ = some (.int .i64 V1) ∧ w'.cell? ⟨gx, 2, none⟩ = some (.int .i64 V2) ∧ w'.cell? ⟨gx, 3, none⟩ = some (.slice none 0 0) ∧ w'.cell? ⟨r, 1, none⟩ = some (.int .i64 P1)) (go_keep) (fail)
    go_wp2_with fail
    refine bodyPost_cell3 (g := w.heap.size) (t := 24) rfl rfl rfl (own_put4 o49 _ _ _ _) Tryd.underlying24 rfl (by kernel_rfl) ?_
    exact HZ.out _ _ (fr_put4 _ _ _ _ _ _) (fun q => absurd hz3 q) (fun _ => rfl)
  · have hq : (((s3.2 : Nat) : Int) == 0) = false := by simp; omega
    obtain ⟨Q1, HQ1⟩ : ∃ Q1 : Int, Hid ((s3.2 : Int) = Q1) := ⟨_, rfl⟩
    rw [HQ1.out] at r2 HZ hq
    go_wp2_with fail
    go_region_held3 (fun w' => w'.cell? ⟨r, 2, none⟩ = some (.int .i64 Q1)) (go_keep) (fail)
    go_wp2_with fail
    refine bodyPost_cell3 (g := w.heap.size) (t := 24) rfl rfl rfl (own_put4 o49 _ _ _ _) Tryd.underlying24 rfl (by kernel_rfl) ?_
    exact HZ.out _ _ (fr_put4 _ _ _ _ _ _) (fun _ => rfl) (fun q => absurd q hz3)
set_option maxHeartbeats 4000000 in
set_option maxRecDepth 100000 in
theorem rdec_49 {w : World} {b off L cap : Nat} {xs : List Nat} (hl : Lies w (some ⟨b, off, none⟩) xs) (hL : L = xs.length) (p : Nat) (hp : p < L) (c : Nat) (hcc : xs.getD p 0 = c) (hc : w.cell? ⟨b, off + p, none⟩ = some (.int .u8 (c : Int))) (h256 : c < 256) (l : Lay) (hn : lay c = some l) (k : Nm) (hps : prt c = [k]) (hop : c = 49) (hk : NmKind k) (hkw : k = nWidth) (ha : l.a = k) (hb : l.b = nPlace) (har : l.arms = true) :
    Calls Tryd.prog 19 #[.slice (some ⟨b, off, none⟩) L cap, .int .i64 (p : Int)] w (DecRet w (dec xs p)) := by
  have hmax : L ≤ 9223372036854775807 := by rw [hL]; exact hl.2.1
  have hbl := World.block_lt_of_cell? w _ hc
  have hb0 : b < w.heap.size := hbl
  cases e1 : k.rd xs (p + 1, 0) with
  | mk V1 s1 =>
  cases e2 : armsR (nVal V1) xs (nShort.rd xs s1).1.toNat (nShort.rd xs s1).2 with
  | mk VA s2 =>
  cases e3 : nPlace.rd xs s2 with
  | mk V2 s3 =>
  have hR2 : dec xs p = if s3.2 ≠ 0 then (zI, 0, s3.2) else (⟨c, V1, V2, VA⟩, s3.1, 0) := by
    rw [dec_some xs p (by omega) l (by rw [hcc]; exact hn), hcc]
    simp only [Lay.rd, Lay.rdArms, ha, hb, har, e1, if_true, e2, e3]
  have hs1 : s1.2 = 0 → s1.1 ≤ xs.length := by have := rd_in (k := k) (xs := xs) (s := (p + 1, 0)) (fun _ => by show p + 1 ≤ _; omega); rw [e1] at this; exact this
  have hs2 : s2.2 = 0 → s2.1 ≤ xs.length := by
    have hq := rd_in (k := nShort) hs1
    have := armsR_in (nVal V1) xs (nShort.rd xs s1).1.toNat (nShort.rd xs s1).2 hq
    rw [e2] at this; exact this
  have hV1 : V1 = 0 ∨ V1 = 1 ∨ V1 = 2 ∨ V1 = 3 := by
    have := width_rd xs (p + 1, 0)
    rw [← hkw, e1] at this
    have : V1 = 0 ∨ (1 ≤ V1 ∧ V1 ≤ 3) := this
    omega
  have HVA : Hid (s3.2 = 0 → s2.2 = 0) := by
    intro q
    by_cases q2 : s2.2 = 0
    · exact q2
    · have := rd_err nPlace xs s2 q2
      rw [e3] at this
      cases this
      exact q
  obtain ⟨R, HR⟩ : ∃ R, Hid (dec xs p = R) := ⟨_, rfl⟩
  rw [HR.out]
  have HRR : Hid (R = if s3.2 ≠ 0 then (zI, 0, s3.2) else (⟨c, V1, V2, VA⟩, s3.1, 0)) := HR.out.symm.trans hR2
  clear hR2 HR
  have HP : Hid (∀ W, Calls Tryd.prog 34 #[.int .u8 (c : Int)] W (RpRet [k] true W)) := by
    intro W
    have := rparts_as c h256 W
    rw [hn, hps] at this
    exact this
  have C1 : Hid (∀ W r, RrAt W r (some ⟨b, off, none⟩) L cap (p + 1, 0) → Lies W (some ⟨b, off, none⟩) xs → Calls Tryd.prog 42 #[ptr r, .agg #[.int .i64 (k.sz : Int), .int .i64 k.lo, .int .i64 k.hi, .bool k.sg]] W fun e w' => e = .returned (.int .i64 V1) ∧ RrRet r (some ⟨b, off, none⟩) L cap s1 W w') := by
    intro W r h1 h2
    have := rrnum_as hk h2 hL h1 (fun _ => by show p + 1 ≤ L; omega)
    rw [e1] at this
    exact this
  have C2 : Hid (∀ W r, RrAt W r (some ⟨b, off, none⟩) L cap s1 → Lies W (some ⟨b, off, none⟩) xs → ¬ b = r → Calls Tryd.prog 43 #[ptr r, .int .i64 V1] W (RaRet W r (some ⟨b, off, none⟩) L cap (VA, s2))) := by
    intro W r h1 h2 h3
    have := rrarms_as V1 hV1 s1 h1 h2 hL (by rw [hL]; exact hs1) (fun b' off' e => by cases e; exact h3)
    rw [e2] at this
    exact this
  have C3 : Hid (∀ W r, RrAt W r (some ⟨b, off, none⟩) L cap s2 → Lies W (some ⟨b, off, none⟩) xs → Calls Tryd.prog 42 #[ptr r, .agg (partC nPlace).toArray] W fun e w' => e = .returned (.int .i64 V2) ∧ RrRet r (some ⟨b, off, none⟩) L cap s3 W w') := by
    intro W r h1 h2
    have := rrnum_as kindPlace h2 hL h1 (by rw [hL]; exact hs2)
    rw [e3] at this
    exact this
  have hc2 : (w.alloc (.cells zX 24)).cell? ⟨b, off + p, none⟩ = some (.int .u8 (c : Int)) := (Below.cell (new_below w _) hbl).trans hc
  have o4 := Own.new w zX 24
  have hbel := new_below w (.cells zX 24)
  have HLi : Hid (Lies w (some ⟨b, off, none⟩) xs) := hl
  have HC0 : Hid (c = 49) := hop
  clear e1 e2 e3 hk hs1 hs2 hV1 hkw hcc hn hc hps hL hl ha hb har hop
  obtain ⟨C, HC⟩ : ∃ C : Int, Hid ((c : Int) = C) := ⟨_, rfl⟩
  have HC49 : Hid (C = 49) := by unfold Hid; rw [← HC.out, HC0.out]; rfl
  rw [HC.out] at hc2 HP
  have hpi : (p : Int) < (L : Int) := by omega
  have HPL : Hid (∀ W ao n, PartLies W ao n [k] → n = 1 ∧ ∃ pb, ao = some ⟨pb, 0, none⟩ ∧ Own W pb #[.int .i64 (k.sz : Int), .int .i64 k.lo, .int .i64 k.hi, .bool k.sg] 67) := by
    rintro W ao n ⟨hm, hpl⟩
    obtain ⟨pb, e, oP⟩ := hpl.resolve_left (by simp)
    exact ⟨hm, pb, e, oP⟩
  generalize (k.sz : Int) = z at *
  generalize k.lo = lo at *
  generalize k.hi = hi at *
  generalize k.sg = sg at *
  go_enter Tryd.func19, Tryd.ntmps19
  go_upto_region 1 with fail
  generalize w.alloc (.cells zX 24) = w1 at *
  go_wp2_with fail
  refine Calls.mono (HP.out w1) ?_
  rintro e w2 ⟨pa, m, cq, rfl, hpl, b2⟩
  have hc3 : w2.cell? ⟨b, off + p, none⟩ = some (.int .u8 C) := (Below.cell (p := ⟨b, off + p, none⟩) b2 (World.block_lt_of_cell? w1 _ hc2)).trans hc2
  replace o4 := o4.below b2
  replace hbel := hbel.trans (b2.mono hbel.size)
  obtain ⟨hm0, pb, rfl, oP⟩ := HPL.out w2 pa m hpl
  subst hm0
  have S2 : RdS w w2.heap.size (w2.heap.size + 1) pb #[.int .i64 z, .int .i64 lo, .int .i64 hi, .bool sg] (some ⟨b, off, none⟩) L cap xs #[.int .u8 C, .int .i64 0, .int .i64 0, .slice none 0 0] (p + 1, 0) ((w2.alloc (.cells #[.slice (some ⟨b, off, none⟩) L cap, .int .i64 ((p : Int) + 1), .int .i64 0] 84)).alloc (.cells #[.int .u8 C, .int .i64 0, .int .i64 0, .slice none 0 0] 24)) := by
    have hw := o4.lt
    have hbb := (new_below w2 (.cells #[.slice (some ⟨b, off, none⟩) L cap, .int .i64 ((p : Int) + 1), .int .i64 0] 84)).alloc (by simp) (.cells #[.int .u8 C, .int .i64 0, .int .i64 0, .slice none 0 0] 24)
    refine ⟨⟨_, (Own.new w2 _ _).alloc _, fun _ => by simp⟩, ?_, (o4.alloc _).alloc _, .inr ((oP.alloc _).alloc _), HLi.out.below (hbel.trans (hbb.mono hbel.size)), hbel.trans (hbb.mono hbel.size), by omega, by omega, by omega, fun b' off' e => by cases e; exact hb0⟩
    have := Own.new (w2.alloc (.cells #[.slice (some ⟨b, off, none⟩) L cap, .int .i64 ((p : Int) + 1), .int .i64 0] 84)) #[.int .u8 C, .int .i64 0, .int .i64 0, .slice none 0 0] 24
    rw [World.size_alloc] at this
    exact this
  have hc4 : (w2.alloc (.cells #[.slice (some ⟨b, off, none⟩) L cap, .int .i64 ((p : Int) + 1), .int .i64 0] 84)).cell? ⟨b, off + p, none⟩ = some (.int .u8 C) := (Below.cell (p := ⟨b, off + p, none⟩) (new_below w2 _) (World.block_lt_of_cell? w2 _ hc3)).trans hc3
  clear o4 hbel hc2 b2 HP HLi hpl
  go_upto_region 8 with fail
  generalize (w2.alloc (.cells #[.slice (some ⟨b, off, none⟩) L cap, .int .i64 ((p : Int) + 1), .int .i64 0] 84)).alloc (.cells #[.int .u8 C, .int .i64 0, .int .i64 0, .slice none 0 0] 24) = w3 at *
  clear hc3 hc4
  generalize w2.heap.size + 1 = gx at *
  generalize w2.heap.size = r at *
  obtain ⟨p0, p1, p2, p3, pf⟩ := own4 (S2.op.resolve_left (by simp))
  go_wp2_with fail
  refine Calls.mono (C1.out w3 r S2.rd S2.lies) ?_
  rintro e w4 ⟨rfl, r4⟩
  have S4 := S2.num r4
  clear p0 p1 p2 p3 pf
  clear r4 S2 C1
  have S5 := S4.set 1 (.int .i64 V1)
  obtain ⟨x0, x1, x2, x3, xf⟩ := own4 S4.ox
  go_upto_region 10 with fail
  generalize w4.setCell ⟨gx, 1, none⟩ (.int .i64 V1) = w5 at *
  clear x0 x1 x2 x3 xf S4
  have S5 : RdS w r gx pb #[.int .i64 z, .int .i64 lo, .int .i64 hi, .bool sg] (some ⟨b, off, none⟩) L cap xs #[.int .u8 C, .int .i64 V1, .int .i64 0, .slice none 0 0] s1 w5 := S5
  obtain ⟨x0, x1, x2, x3, xf⟩ := own4 S5.ox
  have hC49 := HC49.out
  clear HC49
  subst hC49
  have hbr : ¬ b = r := by have := S5.n1; omega
  go_wp2_with fail
  refine Calls.mono (C2.out w5 r S5.rd S5.lies hbr) ?_
  rintro e w6 ⟨va, ps, rfl, hrow, hnew, hps, r6⟩
  have S6 := S5.num r6
  have hvn : ∀ b, va.ownBlock = some b → w.heap.size ≤ b := fun b q => Nat.le_trans S5.bel.size (hnew b q)
  obtain ⟨ao, cp, rfl, -⟩ := hrow.shape
  clear r6 S5 C2 x0 x1 x2 x3 xf hnew
  have S7 := S6.set 3 (.slice ao ps.length cp)
  have row7 := hrow.set (hrow.ne S6.ox (by decide)) 3 (.slice ao ps.length cp)
  obtain ⟨x0, x1, x2, x3, xf⟩ := own4 S6.ox
  go_upto_region 14 with fail
  generalize w6.setCell ⟨gx, 3, none⟩ (.slice ao ps.length cp) = w7 at *
  clear x0 x1 x2 x3 xf S6 hrow
  have S7 : RdS w r gx pb #[.int .i64 z, .int .i64 lo, .int .i64 hi, .bool sg] (some ⟨b, off, none⟩) L cap xs #[.int .u8 49, .int .i64 V1, .int .i64 0, .slice ao ps.length cp] s2 w7 := S7
  go_wp2_with fail
  refine (rleap_any _).mono ?_
  rintro e w8 ⟨rfl, b8⟩
  have S8 := S7.below b8
  have row8 := row7.fr (F := fun _ => False) (Fr.of b8) (fun _ _ q => q)
  clear b8 S7 row7
  go_wp2_with fail
  refine Calls.mono (C3.out w8 r S8.rd S8.lies) ?_
  rintro e w9 ⟨rfl, r9⟩
  have S9 := S8.num r9
  have row9 := row8.fr r9.2 (fun b q e => by obtain ⟨pq, oq, -⟩ := S8.rd; exact row8.ne oq (by decide) (by rw [q, e]))
  clear r9 S8 C3 row8
  have S10 := S9.set 2 (.int .i64 V2)
  have row10 := row9.set (row9.ne S9.ox (by decide)) 2 (.int .i64 V2)
  obtain ⟨x0, x1, x2, x3, xf⟩ := own4 S9.ox
  go_upto_region 15 with fail
  generalize w9.setCell ⟨gx, 2, none⟩ (.int .i64 V2) = w10 at *
  clear x0 x1 x2 x3 xf S9 row9
  have S10 : RdS w r gx pb #[.int .i64 z, .int .i64 lo, .int .i64 hi, .bool sg] (some ⟨b, off, none⟩) L cap xs #[.int .u8 49, .int .i64 V1, .int .i64 V2, .slice ao ps.length cp] s3 w10 := S10
  obtain ⟨x0, x1, x2, x3, xf⟩ := own4 S10.ox
  obtain ⟨P1, oR, hP1⟩ := S10.rd
  obtain ⟨r0, r1, r2, rf⟩ := own3 oR
  have o49 := S10.ot
  obtain ⟨y0, y1, y2, y3, yf⟩ := own4 o49
  have HZ : Hid (∀ (wz : World) (e : Ending), Fr (fun g => g = w.heap.size) w10 wz → (s3.2 ≠ 0 → e = .returned (.tuple #[insV zI (.slice none 0 0), .int .i64 0, .int .i64 (s3.2 : Int)])) → (s3.2 = 0 → e = .returned (.tuple #[.agg #[.int .u8 49, .int .i64 V1, .int .i64 V2, .slice ao ps.length cp], .int .i64 P1, .int .i64 0])) → DecRet w R e wz) := by
    intro wz e fz h1 h2
    have hbz := below_fr S10.bel fz (fun g e => by rw [e]; exact Nat.le_refl _)
    rw [HRR.out]
    by_cases q : s3.2 = 0
    · rw [if_neg (by omega), h2 q, hP1 q]
      have hpv := hps (HVA.out q)
      refine ⟨.slice ao ps.length cp, ?_, by rw [← hpv]; exact row10.fr fz (fun g q e => row10.ne o49 (by decide) (by rw [q, e])), hvn, hbz⟩
      unfold insV
      show _ = Ending.returned (.tuple #[.agg #[.int .u8 (c : Int), .int .i64 V1, .int .i64 V2, .slice ao ps.length cp], .int .i64 (s3.1 : Int), .int .i64 ((0 : Nat) : Int)])
      rw [HC.out]; rfl
    · rw [if_pos q, h1 q]
      exact ⟨_, rfl, World.ownsRow_nil _ _ _ _, by simp [Value.ownBlock], hbz⟩
  have dA : ¬ w.heap.size = gx := by have := S10.n3; omega
  have dB : ¬ w.heap.size = r := by have := S10.n1; omega
  have dC : ¬ gx = w.heap.size := fun e => dA e.symm
  have dD : ¬ r = w.heap.size := fun e => dB e.symm
  clear oR S10 hP1
  by_cases hz3 : s3.2 = 0
  · have hq : (s3.2 : Int) = 0 := by omega
    rw [hq] at r2
    go_wp2_with fail
    go_region_held3 (fun w' => w'.cell? ⟨gx, 0, none⟩ = some (.int .u8 49) ∧ w'.cell? ⟨gx, 1, none⟩ = some (.int .i64 V1) ∧ w'.cell? ⟨gx, 2, none⟩ = some (.int .i64 V2) ∧ w'.cell? ⟨gx, 3, none⟩ = some (.slice ao ps.length cp) ∧ w'.cell? ⟨r, 1, none⟩ = some (.int .i64 P1)) (go_keep) (fail)
    go_wp2_with fail
    refine bodyPost_cell3 (g := w.heap.size) (t := 24) rfl rfl rfl (own_put4 o49 _ _ _ _) Tryd.underlying24 rfl (by kernel_rfl) ?_
    exact HZ.out _ _ (fr_put4 _ _ _ _ _ _) (fun q => absurd hz3 q) (fun _ => rfl)
  · have hq : (((s3.2 : Nat) : Int) == 0) = false := by simp; omega
    obtain ⟨Q1, HQ1⟩ : ∃ Q1 : Int, Hid ((s3.2 : Int) = Q1) := ⟨_, rfl⟩
    rw [HQ1.out] at r2 HZ hq
    go_wp2_with fail
    go_region_held3 (fun w' => w'.cell? ⟨r, 2, none⟩ = some (.int .i64 Q1)) (go_keep) (fail)
    go_wp2_with fail
    refine bodyPost_cell3 (g := w.heap.size) (t := 24) rfl rfl rfl (own_put4 o49 _ _ _ _) Tryd.underlying24 rfl (by kernel_rfl) ?_
    exact HZ.out _ _ (fr_put4 _ _ _ _ _ _) (fun _ => rfl) (fun q => absurd q hz3)
theorem kind_of {k : Nm} (h : k = nI8 ∨ k = nI32 ∨ k = nI64 ∨ k = nShort ∨ k = nKind ∨ k = nWidth ∨ k = nPlace ∨ k = nByte) : NmKind k := by
  rcases h with rfl | rfl | rfl | rfl | rfl | rfl | rfl | rfl
  · exact ⟨okI8, by decide, by decide, by decide⟩
  · exact ⟨okI32, by decide, by decide, by decide⟩
  · exact ⟨okI64, by decide, by decide, by decide⟩
  · exact kindShort
  · exact ⟨okKind, by decide, by decide, by decide⟩
  · exact ⟨okWidth, by decide, by decide, by decide⟩
  · exact kindPlace
  · exact ⟨okByte, by decide, by decide, by decide⟩
theorem lay_kinds {op : Nat} {l : Lay} (h : lay op = some l) : (op = 49 ∧ l = ⟨nWidth, nPlace, true⟩) ∨ (op ≠ 49 ∧ l.arms = false ∧ ((l.a = nNone ∧ l.b = nNone) ∨ (NmKind l.a ∧ l.b = nNone) ∨ (NmKind l.a ∧ NmKind l.b))) := by
  unfold lay at h
  repeat' (rcases ite_some h with ⟨hc, rfl⟩ | ⟨hc, h'⟩; (first | (right; refine ⟨by omega, rfl, ?_⟩; first | exact .inl ⟨rfl, rfl⟩ | exact .inr (.inl ⟨kind_of (by simp), rfl⟩) | exact .inr (.inr ⟨kind_of (by simp), kind_of (by simp)⟩)) | exact .inl ⟨hc, rfl⟩); clear h; have h := h'; clear h')
  cases h
/-- The document's Decode, of whatever bytes, at whatever place. -/
theorem rdec_as {w : World} {a : Option Addr} {L cap : Nat} {xs : List Nat} (hl : Lies w a xs) (hL : L = xs.length) (p : Int) :
    Calls Tryd.prog 19 #[.slice a L cap, .int .i64 p] w (DecRet w (dec xs p)) := by
  by_cases h : p < 0 ∨ (xs.length : Int) ≤ p
  · exact rdec_bad_place hL p h
  · obtain ⟨k, rfl⟩ := Int.eq_ofNat_of_zero_le (show 0 ≤ p by omega)
    have hk : k < xs.length := by omega
    rcases hl.2.2 with h0 | ⟨b, off, rfl, hc⟩
    · subst h0; cases hk
    · have hcell := hc k hk
      have h256 : xs.getD k 0 < 256 := hl.1 _ (by simp [List.getD, hk])
      cases hlay : lay (xs.getD k 0) with
      | none => exact rdec_no_op hL k (by omega) _ rfl hcell (by rw [hL]; exact hl.2.1) h256 hlay
      | some l =>
        rcases lay_kinds hlay with ⟨h49, rfl⟩ | ⟨hne, har, hs⟩
        · exact rdec_49 hl hL k (by omega) _ rfl hcell h256 _ hlay nWidth (by unfold prt; rw [hlay]; rfl) h49 (kind_of (by simp)) rfl rfl rfl rfl
        · rcases hs with ⟨ha, hb⟩ | ⟨ha, hb⟩ | ⟨ha, hb⟩
          · exact rdec_0 hl hL k (by omega) _ rfl hcell h256 l hlay (by unfold prt; rw [hlay]; show (if l.arms = true then _ else if l.a.sz = 0 then _ else _) = _; rw [har, if_neg (by simp), ha]; rfl) hne ha hb har
          · exact rdec_1 hl hL k (by omega) _ rfl hcell h256 l hlay l.a (by unfold prt; rw [hlay]; show (if l.arms = true then _ else if l.a.sz = 0 then _ else if l.b.sz = 0 then _ else _) = _; rw [har, if_neg (by simp), if_neg (by have := ha.pos; omega), hb]; rfl) hne ha rfl hb har
          · exact rdec_2 hl hL k (by omega) _ rfl hcell h256 l hlay l.a l.b (by unfold prt; rw [hlay]; show (if l.arms = true then _ else if l.a.sz = 0 then _ else if l.b.sz = 0 then _ else _) = _; rw [har, if_neg (by simp), if_neg (by have := ha.pos; omega), if_neg (by have := hb.pos; omega)]) hne ha hb rfl rfl har
end Go.Proofs.YtffnlcamobekoaaDoor
