/-
  De2, what is reached of it.
-/
import Derived.Test.YtkmmnocooibljaaGreatDoorLz
import Derived.Test.YtkmmnocooibljaaGreatDoorDeq
namespace Go.Proofs.YtkmmnocooibljaaGreatDoor
open Go.ChangeShapes Go.WideShapes Go.ChangeAt Go.RowKit Go.Deep
set_option linter.unusedVariables false

theorem armsR_le (k : Nm) (xs : List Nat) : ∀ n (s : St), s.1 ≤ xs.length → (armsR k xs n s).2.1 ≤ xs.length := by
  intro n
  induction n with
  | zero => intro s h; exact h
  | succ n ih =>
    intro s h
    have h2 := rd_le (k := nPlace) (rd_le (k := k) h)
    unfold armsR
    simp only
    split
    · exact h2
    · split
      · exact ih _ h2
      · exact ih _ h2
theorem width_rd (xs : List Nat) (s : St) : (nWidth.rd xs s).1 = 0 ∨ (1 ≤ (nWidth.rd xs s).1 ∧ (nWidth.rd xs s).1 ≤ 3) := by
  unfold Nm.rd
  split
  · exact .inl rfl
  · split
    · exact .inl rfl
    · split
      · rename_i hm; exact .inr (of_decide_eq_true hm)
      · exact .inl rfl
set_option maxHeartbeats 4000000 in
set_option maxRecDepth 100000 in
theorem dec_plain {w : World} {b off L cap : Nat} {xs : List Nat} (hl : Lies w (some ⟨b, off, none⟩) xs) (hL : L = xs.length) (p : Nat) (hp : p < L) (c : Nat) (hcc : xs.getD p 0 = c) (hc : w.cell? ⟨b, off + p, none⟩ = some (.int .u8 (c : Int)))
    (l : Lay) (wa : Int) (fa : Nat) (wb : Int) (fb : Nat) (hn : lay c = some l) (hka : NumIs l.a wa fa) (hkb : NumIs l.b wb fb) (har : l.arms = false) (hcall : ∀ w, Calls Tryz.prog 60 #[.int .u8 (c : Int)] w fun e w' => e = .returned (.tuple #[layV l wa fa wb fb, .bool true]) ∧ Below w.heap.size w w') :
    Calls Tryz.prog 36 #[.slice (some ⟨b, off, none⟩) L cap, .int .i64 (p : Int)] w (DecRet w (dec xs p)) := by
  have hmax : L ≤ 9223372036854775807 := by rw [hL]; exact hl.2.1
  have hbl := World.block_lt_of_cell? w _ hc
  have hb : b < w.heap.size := hbl
  cases e1 : l.a.rd xs (p + 1, 0) with
  | mk V1 s1 =>
  cases e2 : l.rdArms V1 xs s1 with
  | mk VA s2 =>
  cases e3 : l.b.rd xs s2 with
  | mk V2 s3 =>
  have hR : dec xs p = if s3.2 ≠ 0 then (zI, 0, s3.2) else (⟨c, V1, V2, VA⟩, s3.1, 0) := by
    rw [dec_some xs p (by omega) l (by rw [hcc]; exact hn), hcc]
    simp only [Lay.rd, e1, e2, e3]
  obtain ⟨R, HR⟩ : ∃ R, Hid (dec xs p = R) := ⟨_, rfl⟩
  rw [HR.out]
  have HRR : Hid (R = if s3.2 ≠ 0 then (zI, 0, s3.2) else (⟨c, V1, V2, VA⟩, s3.1, 0)) := HR.out.symm.trans hR
  clear hR HR
  have hp1 : p + 1 ≤ xs.length := by omega
  have hs1 : s1.1 ≤ xs.length := by have := rd_le (k := l.a) (s := (p + 1, 0)) hp1; rw [e1] at this; exact this
  have HL : Hid (L = xs.length) := hL
  have e2' : VA = [] ∧ s2 = s1 := by
    unfold Lay.rdArms at e2; rw [if_neg (by rw [har]; simp)] at e2; exact ⟨(congrArg Prod.fst e2).symm, (congrArg Prod.snd e2).symm⟩
  obtain ⟨rfl, hss⟩ := e2'
  have hs2 : s2.1 ≤ xs.length := by rw [hss]; exact hs1
  have hs3 : s3.1 ≤ xs.length := by have := rd_le (k := l.b) hs2; rw [e3] at this; exact this
  have hc2 : (w.alloc (.cells zX 43)).cell? ⟨b, off + p, none⟩ = some (.int .u8 (c : Int)) := (Below.cell (new_below w _) hbl).trans hc
  have o4 := (Own.new w zX 43).alloc (.cells #[.int .u8 (c : Int), .int .i64 0, .int .i64 0, .slice none 0 0] 43)
  have hbel : Below w.heap.size w ((w.alloc (.cells zX 43)).alloc (.cells #[.int .u8 (c : Int), .int .i64 0, .int .i64 0, .slice none 0 0] 43)) := (new_below _ _).alloc (by simp) _
  have oX := Own.new (w.alloc (.cells zX 43)) #[.int .u8 (c : Int), .int .i64 0, .int .i64 0, .slice none 0 0] 43
  rw [World.size_alloc] at oX
  have hx1 := oX.lt
  have C1 : Hid (∀ (W : World) (r : Nat), Own W r (rdC (some ⟨b, off, none⟩) L cap (p + 1, 0)) 104 → Lies W (some ⟨b, off, none⟩) xs → Calls Tryz.prog 61 #[ptr r, numV l.a.sz wa fa] W fun e w' => e = .returned (.int .i64 V1) ∧ RdRet r (some ⟨b, off, none⟩) L cap s1 W w') := by
    intro W r h1 h2
    have := rnum_as hka (p + 1, 0) h1 h2 HL.out (by rw [HL.out]; exact hp1)
    rw [e1] at this
    exact this
  have C3 : Hid (∀ (W : World) (r : Nat), Own W r (rdC (some ⟨b, off, none⟩) L cap s2) 104 → Lies W (some ⟨b, off, none⟩) xs → Calls Tryz.prog 61 #[ptr r, numV l.b.sz wb fb] W fun e w' => e = .returned (.int .i64 V2) ∧ RdRet r (some ⟨b, off, none⟩) L cap s3 W w') := by
    intro W r h1 h2
    have := rnum_as hkb s2 h1 h2 HL.out (by rw [HL.out]; exact hs2)
    rw [e3] at this
    exact this
  replace hl := (hl.alloc (.cells zX 43)).alloc (.cells #[.int .u8 (c : Int), .int .i64 0, .int .i64 0, .slice none 0 0] 43)
  obtain ⟨za, hza⟩ : ∃ za : Int, za = (l.a.sz : Int) := ⟨_, rfl⟩
  obtain ⟨zb, hzb⟩ : ∃ zb : Int, zb = (l.b.sz : Int) := ⟨_, rfl⟩
  rw [← hza] at C1
  rw [← hzb] at C3
  unfold layV at hcall
  rw [← hza, ← hzb, har] at hcall
  clear hka hkb hn hza hzb hL hc hbl hcc hp1  e1 e2 e3 har
  obtain ⟨C, HC⟩ : ∃ C : Int, Hid ((c : Int) = C) := ⟨_, rfl⟩
  rw [HC.out] at hc2 o4 hbel oX hl hcall hx1
  go_enter Tryz.func36, Tryz.ntmps36
  go_upto_region 4 with fail
  generalize (w.alloc (.cells zX 43)).alloc (.cells #[.int .u8 C, .int .i64 0, .int .i64 0, .slice none 0 0] 43) = w1 at *
  obtain ⟨x0, x1, x2, x3, xf⟩ := own4 oX
  go_wp2_with fail
  refine (hcall _).mono ?_
  rintro e w2 ⟨rfl, b2⟩
  replace o4 := o4.below b2
  replace oX := oX.below b2
  replace hl := hl.below b2
  replace hbel := hbel.trans (b2.mono hbel.size)
  have hx2 : w.heap.size + 1 < w2.heap.size := Nat.lt_of_lt_of_le hx1 b2.size
  clear b2 x0 x1 x2 x3 xf hcall hx1
  have oL := Own.new w2 #[.int .i64 za, .int .u8 wa, .func (.func fa) #[] #[], .int .i64 zb, .int .u8 wb, .func (.func fb) #[] #[], .bool false] 100
  replace o4 := o4.alloc (.cells #[.int .i64 za, .int .u8 wa, .func (.func fa) #[] #[], .int .i64 zb, .int .u8 wb, .func (.func fb) #[] #[], .bool false] 100)
  replace oX := oX.alloc (.cells #[.int .i64 za, .int .u8 wa, .func (.func fa) #[] #[], .int .i64 zb, .int .u8 wb, .func (.func fb) #[] #[], .bool false] 100)
  replace hl := hl.alloc (.cells #[.int .i64 za, .int .u8 wa, .func (.func fa) #[] #[], .int .i64 zb, .int .u8 wb, .func (.func fb) #[] #[], .bool false] 100)
  replace hbel := hbel.alloc hbel.size (.cells #[.int .i64 za, .int .u8 wa, .func (.func fa) #[] #[], .int .i64 zb, .int .u8 wb, .func (.func fb) #[] #[], .bool false] 100)
  go_upto_region 5 with fail
  have hsz3 : (w2.alloc (.cells #[.int .i64 za, .int .u8 wa, .func (.func fa) #[] #[], .int .i64 zb, .int .u8 wb, .func (.func fb) #[] #[], .bool false] 100)).heap.size = w2.heap.size + 1 := World.size_alloc _ _
  generalize w2.alloc (.cells #[.int .i64 za, .int .u8 wa, .func (.func fa) #[] #[], .int .i64 zb, .int .u8 wb, .func (.func fb) #[] #[], .bool false] 100) = w3 at *
  have oR := Own.new w3 #[.slice (some ⟨b, off, none⟩) L cap, .int .i64 ((p : Int) + 1), .int .i64 0] 104
  replace o4 := o4.alloc (.cells #[.slice (some ⟨b, off, none⟩) L cap, .int .i64 ((p : Int) + 1), .int .i64 0] 104)
  replace oX := oX.alloc (.cells #[.slice (some ⟨b, off, none⟩) L cap, .int .i64 ((p : Int) + 1), .int .i64 0] 104)
  replace oL := oL.alloc (.cells #[.slice (some ⟨b, off, none⟩) L cap, .int .i64 ((p : Int) + 1), .int .i64 0] 104)
  replace hl := hl.alloc (.cells #[.slice (some ⟨b, off, none⟩) L cap, .int .i64 ((p : Int) + 1), .int .i64 0] 104)
  replace hbel := hbel.alloc hbel.size (.cells #[.slice (some ⟨b, off, none⟩) L cap, .int .i64 ((p : Int) + 1), .int .i64 0] 104)
  go_upto_region 8 with fail
  rw [hsz3] at oR
  obtain ⟨r, hr⟩ : ∃ r, w2.heap.size + 1 = r := ⟨_, rfl⟩
  obtain ⟨gl, hgl⟩ : ∃ gl, w2.heap.size = gl := ⟨_, rfl⟩
  obtain ⟨gx, hgx⟩ : ∃ gx, w.heap.size + 1 = gx := ⟨_, rfl⟩
  have d1 : ¬ w.heap.size = r := by omega
  have d2 : ¬ gx = r := by omega
  have d3 : ¬ gl = r := by omega
  have d4 : ¬ b = r := by omega
  have d5 : ¬ w.heap.size = gx := by omega
  have d6 : ¬ gl = gx := by omega
  have d7 : ¬ r = gx := by omega
  have d8 : ¬ b = gx := by omega
  have d9 : ¬ r = w.heap.size := by omega
  have da : ¬ gx = w.heap.size := by omega
  have hnw : w.heap.size ≤ r := by omega
  have hnx : w.heap.size ≤ gx := by omega
  generalize w3.alloc (.cells #[.slice (some ⟨b, off, none⟩) L cap, .int .i64 ((p : Int) + 1), .int .i64 0] 104) = w4 at *
  rw [hr] at oR
  rw [hgx] at oX
  rw [hgl] at oL
  simp only [hr, hgx]
  simp only [hgl]
  clear hgl hr hgx hsz3 hx2
  have oRR : Own w4 r (rdC (some ⟨b, off, none⟩) L cap (p + 1, 0)) 104 := by
    unfold rdC
    rw [show (((p + 1, 0) : St).1 : Int) = (p : Int) + 1 by simp, show (((p + 1, 0) : St).2 : Int) = 0 by rfl]
    exact oR
  clear oR
  have hcall1 := C1.out _ r oRR hl
  clear C1
  obtain ⟨l0, l1, l2, l3, l4, l5, l6, lf⟩ := own7 oL
  go_wp2_with fail
  refine hcall1.mono ?_
  rintro e w5 ⟨rfl, oR5, f5⟩
  clear l0 l1 l2 l3 l4 l5 l6 lf hcall1 oRR
  replace o4 := o4.fr f5 d1
  replace oX := oX.fr f5 d2
  replace oL := oL.fr f5 d3
  replace hl := hl.fr f5 (fun b' off' e => by cases e; exact d4)
  replace hbel := below_fr hbel f5 (fun g e => by rw [e]; exact hnw)
  clear f5
  have oX6 : Own (w5.setCell ⟨gx, 1, none⟩ (.int .i64 V1)) gx #[.int .u8 C, .int .i64 V1, .int .i64 0, .slice none 0 0] 43 := by simpa using oX.set 1 (.int .i64 V1)
  have oR6 := oR5.other (i := 1) d7 (.int .i64 V1)
  have o46 := o4.other (i := 1) d5 (.int .i64 V1)
  have oL6 := oL.other (i := 1) d6 (.int .i64 V1)
  have hl6 : Lies (w5.setCell ⟨gx, 1, none⟩ (.int .i64 V1)) (some ⟨b, off, none⟩) xs := hl.fr (F := fun g => g = gx) ((Fr.refl (fun g => g = gx) w5).set (g := gx) (.inr rfl) 1 _) (fun b' off' e => by cases e; exact d8)
  have hb6 := hbel.setCell (p := ⟨gx, 1, none⟩) hnx (.int .i64 V1)
  obtain ⟨x0, x1, x2, x3, xf⟩ := own4 oX
  go_upto_region 9 with fail
  generalize w5.setCell ⟨gx, 1, none⟩ (.int .i64 V1) = w6 at *
  clear oX oR5 o4 oL hl hbel x0 x1 x2 x3 xf
  obtain ⟨l0, l1, l2, l3, l4, l5, l6, lf⟩ := own7 oL6
  obtain ⟨x0, x1, x2, x3, xf⟩ := own4 oX6
  rw [← hss] at oR6
  clear hss
  obtain ⟨va, hva⟩ : ∃ va : Value, va = .slice none 0 0 := ⟨_, rfl⟩
  have hrow : Rw w6 51 2 va 0 [] := by rw [hva]; exact World.ownsRow_nil _ _ _ _
  have hvn : ∀ b, va.ownBlock = some b → w.heap.size ≤ b := by rw [hva]; simp [Value.ownBlock]
  rw [← hva] at oX6 x3
  clear hva
  go_wp2_with fail
  refine (C3.out _ r oR6 hl6).mono ?_
  rintro e w8 ⟨rfl, oR8, f8⟩
  clear l0 l1 l2 l3 l4 l5 l6 lf C3 x0 x1 x2 x3 xf
  replace o46 := o46.fr f8 d1
  replace oX6 := oX6.fr f8 d2
  replace hb6 := below_fr hb6 f8 (fun g e => by rw [e]; exact hnw)
  replace hrow := hrow.fr f8 (fun g q e => hrow.ne oR6 (by decide) (by rw [q, e]))
  clear f8 oR6 oL6 hl6
  have oX9 : Own (w8.setCell ⟨gx, 2, none⟩ (.int .i64 V2)) gx #[.int .u8 C, .int .i64 V1, .int .i64 V2, va] 43 := by simpa using oX6.set 2 (.int .i64 V2)
  have oR9 := oR8.other (i := 2) d7 (.int .i64 V2)
  have o49 := o46.other (i := 2) d5 (.int .i64 V2)
  have hb9 := hb6.setCell (p := ⟨gx, 2, none⟩) hnx (.int .i64 V2)
  have hrow9 := hrow.set (hrow.ne oX6 (by decide)) 2 (.int .i64 V2)
  obtain ⟨x0, x1, x2, x3, xf⟩ := own4 oX6
  go_upto_region 12 with fail
  generalize w8.setCell ⟨gx, 2, none⟩ (.int .i64 V2) = w9 at *
  clear oX6 oR8 o46 hb6 x0 x1 x2 x3 xf hrow
  obtain ⟨x0, x1, x2, x3, xf⟩ := own4 oX9
  obtain ⟨r0, r1, r2, rf⟩ := own3 oR9
  obtain ⟨y0, y1, y2, y3, yf⟩ := own4 o49
  obtain ⟨ao9, cp9, rfl, -⟩ := hrow9.shape
  have HZ : Hid (∀ (wz : World) (e : Ending), Fr (fun g => g = w.heap.size) w9 wz → (s3.2 ≠ 0 → e = .returned (.tuple #[insV zI (.slice none 0 0), .int .i64 0, .int .i64 (s3.2 : Int)])) → (s3.2 = 0 → e = .returned (.tuple #[.agg #[.int .u8 C, .int .i64 V1, .int .i64 V2, .slice ao9 0 cp9], .int .i64 (s3.1 : Int), .int .i64 0])) → DecRet w R e wz) := by
    intro wz e fz h1 h2
    have hbz := below_fr hb9 fz (fun g e => by rw [e]; exact Nat.le_refl _)
    rw [HRR.out]
    by_cases q : s3.2 = 0
    · rw [if_neg (by omega), h2 q]
      refine ⟨_, ?_, hrow9.fr fz (fun g q e => hrow9.ne o49 (by decide) (by rw [q, e])), hvn, hbz⟩
      show _ = Ending.returned (.tuple #[insV ⟨c, V1, V2, []⟩ (.slice ao9 0 cp9), .int .i64 (s3.1 : Int), .int .i64 ((0 : Nat) : Int)])
      unfold insV
      rw [HC.out]; rfl
    · rw [if_pos q, h1 q]
      exact ⟨_, rfl, World.ownsRow_nil _ _ _ _, by simp [Value.ownBlock], hbz⟩
  clear oX9 oR9 hb9 hrow9 hvn
  by_cases hz3 : s3.2 = 0
  · have hq : (s3.2 : Int) = 0 := by omega
    rw [hq] at r2
    obtain ⟨P1, HP1⟩ : ∃ P1 : Int, Hid ((s3.1 : Int) = P1) := ⟨_, rfl⟩
    rw [HP1.out] at r1 HZ
    go_wp2_with fail
    go_region_held3 (fun w' => w'.cell? ⟨gx, 0, none⟩ = some (.int .u8 C) ∧ w'.cell? ⟨gx, 1, none⟩ = some (.int .i64 V1) ∧ w'.cell? ⟨gx, 2, none⟩ = some (.int .i64 V2) ∧ w'.cell? ⟨gx, 3, none⟩ = some (.slice ao9 0 cp9) ∧ w'.cell? ⟨r, 1, none⟩ = some (.int .i64 P1)) (go_keep) (fail)
    go_wp2_with fail
    refine bodyPost_cell3 (g := w.heap.size) (t := 43) rfl rfl rfl (own_put4 o49 _ _ _ _) Tryz.underlying43 rfl (by kernel_rfl) ?_
    exact HZ.out _ _ (fr_put4 _ _ _ _ _ _) (fun q => absurd hz3 q) (fun _ => rfl)
  · have hq : (((s3.2 : Nat) : Int) == 0) = false := by simp; omega
    obtain ⟨Q1, HQ1⟩ : ∃ Q1 : Int, Hid ((s3.2 : Int) = Q1) := ⟨_, rfl⟩
    rw [HQ1.out] at r2 HZ hq
    go_wp2_with fail
    go_region_held3 (fun w' => w'.cell? ⟨r, 2, none⟩ = some (.int .i64 Q1)) (go_keep) (fail)
    go_wp2_with fail
    refine bodyPost_cell3 (g := w.heap.size) (t := 43) rfl rfl rfl (own_put4 o49 _ _ _ _) Tryz.underlying43 rfl (by kernel_rfl) ?_
    exact HZ.out _ _ (fr_put4 _ _ _ _ _ _) (fun _ => rfl) (fun q => absurd q hz3)
set_option maxHeartbeats 4000000 in
set_option maxRecDepth 100000 in
theorem dec_switch {w : World} {b off L cap : Nat} {xs : List Nat} (hl : Lies w (some ⟨b, off, none⟩) xs) (hL : L = xs.length) (p : Nat) (hp : p < L) (c : Nat) (hcc : xs.getD p 0 = c) (hc : w.cell? ⟨b, off + p, none⟩ = some (.int .u8 (c : Int)))
    (l : Lay) (wa : Int) (fa : Nat) (wb : Int) (fb : Nat) (hn : lay c = some l) (hka : NumIs l.a wa fa) (hkb : NumIs l.b wb fb) (har : l.arms = true) (hcall : ∀ w, Calls Tryz.prog 60 #[.int .u8 (c : Int)] w fun e w' => e = .returned (.tuple #[layV l wa fa wb fb, .bool true]) ∧ Below w.heap.size w w') :
    Calls Tryz.prog 36 #[.slice (some ⟨b, off, none⟩) L cap, .int .i64 (p : Int)] w (DecRet w (dec xs p)) := by
  have hmax : L ≤ 9223372036854775807 := by rw [hL]; exact hl.2.1
  have hbl := World.block_lt_of_cell? w _ hc
  have hb : b < w.heap.size := hbl
  cases e1 : l.a.rd xs (p + 1, 0) with
  | mk V1 s1 =>
  cases e2 : l.rdArms V1 xs s1 with
  | mk VA s2 =>
  cases e3 : l.b.rd xs s2 with
  | mk V2 s3 =>
  have hR : dec xs p = if s3.2 ≠ 0 then (zI, 0, s3.2) else (⟨c, V1, V2, VA⟩, s3.1, 0) := by
    rw [dec_some xs p (by omega) l (by rw [hcc]; exact hn), hcc]
    simp only [Lay.rd, e1, e2, e3]
  obtain ⟨R, HR⟩ : ∃ R, Hid (dec xs p = R) := ⟨_, rfl⟩
  rw [HR.out]
  have HRR : Hid (R = if s3.2 ≠ 0 then (zI, 0, s3.2) else (⟨c, V1, V2, VA⟩, s3.1, 0)) := HR.out.symm.trans hR
  clear hR HR
  have hp1 : p + 1 ≤ xs.length := by omega
  have hs1 : s1.1 ≤ xs.length := by have := rd_le (k := l.a) (s := (p + 1, 0)) hp1; rw [e1] at this; exact this
  have HL : Hid (L = xs.length) := hL
  have hw := (lay_ok hn).1.w har
  have hV1 : V1 = 0 ∨ V1 = 1 ∨ V1 = 2 ∨ V1 = 3 := by
    have : V1 = 0 ∨ (1 ≤ V1 ∧ V1 ≤ 3) := by
      have h := width_rd xs (p + 1, 0)
      rw [← hw, e1] at h; exact h
    omega
  have e2' : armsR (nVal V1) xs (nShort.rd xs s1).1.toNat (nShort.rd xs s1).2 = (VA, s2) := by
    unfold Lay.rdArms at e2; rw [if_pos har] at e2; exact e2
  have hs2 : s2.1 ≤ xs.length := by
    have := armsR_le (nVal V1) xs (nShort.rd xs s1).1.toNat (nShort.rd xs s1).2 (rd_le hs1)
    rw [e2'] at this; exact this
  have hs3 : s3.1 ≤ xs.length := by have := rd_le (k := l.b) hs2; rw [e3] at this; exact this
  have hc2 : (w.alloc (.cells zX 43)).cell? ⟨b, off + p, none⟩ = some (.int .u8 (c : Int)) := (Below.cell (new_below w _) hbl).trans hc
  have o4 := (Own.new w zX 43).alloc (.cells #[.int .u8 (c : Int), .int .i64 0, .int .i64 0, .slice none 0 0] 43)
  have hbel : Below w.heap.size w ((w.alloc (.cells zX 43)).alloc (.cells #[.int .u8 (c : Int), .int .i64 0, .int .i64 0, .slice none 0 0] 43)) := (new_below _ _).alloc (by simp) _
  have oX := Own.new (w.alloc (.cells zX 43)) #[.int .u8 (c : Int), .int .i64 0, .int .i64 0, .slice none 0 0] 43
  rw [World.size_alloc] at oX
  have hx1 := oX.lt
  have C1 : Hid (∀ (W : World) (r : Nat), Own W r (rdC (some ⟨b, off, none⟩) L cap (p + 1, 0)) 104 → Lies W (some ⟨b, off, none⟩) xs → Calls Tryz.prog 61 #[ptr r, numV l.a.sz wa fa] W fun e w' => e = .returned (.int .i64 V1) ∧ RdRet r (some ⟨b, off, none⟩) L cap s1 W w') := by
    intro W r h1 h2
    have := rnum_as hka (p + 1, 0) h1 h2 HL.out (by rw [HL.out]; exact hp1)
    rw [e1] at this
    exact this
  have C3 : Hid (∀ (W : World) (r : Nat), Own W r (rdC (some ⟨b, off, none⟩) L cap s2) 104 → Lies W (some ⟨b, off, none⟩) xs → Calls Tryz.prog 61 #[ptr r, numV l.b.sz wb fb] W fun e w' => e = .returned (.int .i64 V2) ∧ RdRet r (some ⟨b, off, none⟩) L cap s3 W w') := by
    intro W r h1 h2
    have := rnum_as hkb s2 h1 h2 HL.out (by rw [HL.out]; exact hs2)
    rw [e3] at this
    exact this
  have C2 : Hid (∀ (W : World) (r : Nat), Own W r (rdC (some ⟨b, off, none⟩) L cap s1) 104 → Lies W (some ⟨b, off, none⟩) xs → ¬ b = r → Calls Tryz.prog 62 #[ptr r, .int .u8 V1] W (ArRet W r (some ⟨b, off, none⟩) L cap (VA, s2))) := by
    intro W r h1 h2 h3
    have := rarms_as V1 hV1 s1 h1 h2 HL.out (by rw [HL.out]; exact hs1) (fun b' off' e => by cases e; exact h3)
    rw [e2'] at this
    exact this
  have hcv : V1 % 256 = V1 := by omega
  have hcv2 : IntKind.u8.wrap V1 = V1 := by rw [IntKind.wrap_u8]; omega
  have HCV : Hid (V1 % 256 = V1) := hcv
  have HCV2 : Hid (IntKind.u8.wrap V1 = V1) := hcv2
  clear hcv hcv2
  replace hl := (hl.alloc (.cells zX 43)).alloc (.cells #[.int .u8 (c : Int), .int .i64 0, .int .i64 0, .slice none 0 0] 43)
  obtain ⟨za, hza⟩ : ∃ za : Int, za = (l.a.sz : Int) := ⟨_, rfl⟩
  obtain ⟨zb, hzb⟩ : ∃ zb : Int, zb = (l.b.sz : Int) := ⟨_, rfl⟩
  rw [← hza] at C1
  rw [← hzb] at C3
  unfold layV at hcall
  rw [← hza, ← hzb, har] at hcall
  clear hka hkb hn hza hzb hL hc hbl hcc hp1 e2' hV1 hw e1 e2 e3 har
  obtain ⟨C, HC⟩ : ∃ C : Int, Hid ((c : Int) = C) := ⟨_, rfl⟩
  rw [HC.out] at hc2 o4 hbel oX hl hcall hx1
  go_enter Tryz.func36, Tryz.ntmps36
  go_upto_region 4 with fail
  generalize (w.alloc (.cells zX 43)).alloc (.cells #[.int .u8 C, .int .i64 0, .int .i64 0, .slice none 0 0] 43) = w1 at *
  obtain ⟨x0, x1, x2, x3, xf⟩ := own4 oX
  go_wp2_with fail
  refine (hcall _).mono ?_
  rintro e w2 ⟨rfl, b2⟩
  replace o4 := o4.below b2
  replace oX := oX.below b2
  replace hl := hl.below b2
  replace hbel := hbel.trans (b2.mono hbel.size)
  have hx2 : w.heap.size + 1 < w2.heap.size := Nat.lt_of_lt_of_le hx1 b2.size
  clear b2 x0 x1 x2 x3 xf hcall hx1
  have oL := Own.new w2 #[.int .i64 za, .int .u8 wa, .func (.func fa) #[] #[], .int .i64 zb, .int .u8 wb, .func (.func fb) #[] #[], .bool true] 100
  replace o4 := o4.alloc (.cells #[.int .i64 za, .int .u8 wa, .func (.func fa) #[] #[], .int .i64 zb, .int .u8 wb, .func (.func fb) #[] #[], .bool true] 100)
  replace oX := oX.alloc (.cells #[.int .i64 za, .int .u8 wa, .func (.func fa) #[] #[], .int .i64 zb, .int .u8 wb, .func (.func fb) #[] #[], .bool true] 100)
  replace hl := hl.alloc (.cells #[.int .i64 za, .int .u8 wa, .func (.func fa) #[] #[], .int .i64 zb, .int .u8 wb, .func (.func fb) #[] #[], .bool true] 100)
  replace hbel := hbel.alloc hbel.size (.cells #[.int .i64 za, .int .u8 wa, .func (.func fa) #[] #[], .int .i64 zb, .int .u8 wb, .func (.func fb) #[] #[], .bool true] 100)
  go_upto_region 5 with fail
  have hsz3 : (w2.alloc (.cells #[.int .i64 za, .int .u8 wa, .func (.func fa) #[] #[], .int .i64 zb, .int .u8 wb, .func (.func fb) #[] #[], .bool true] 100)).heap.size = w2.heap.size + 1 := World.size_alloc _ _
  generalize w2.alloc (.cells #[.int .i64 za, .int .u8 wa, .func (.func fa) #[] #[], .int .i64 zb, .int .u8 wb, .func (.func fb) #[] #[], .bool true] 100) = w3 at *
  have oR := Own.new w3 #[.slice (some ⟨b, off, none⟩) L cap, .int .i64 ((p : Int) + 1), .int .i64 0] 104
  replace o4 := o4.alloc (.cells #[.slice (some ⟨b, off, none⟩) L cap, .int .i64 ((p : Int) + 1), .int .i64 0] 104)
  replace oX := oX.alloc (.cells #[.slice (some ⟨b, off, none⟩) L cap, .int .i64 ((p : Int) + 1), .int .i64 0] 104)
  replace oL := oL.alloc (.cells #[.slice (some ⟨b, off, none⟩) L cap, .int .i64 ((p : Int) + 1), .int .i64 0] 104)
  replace hl := hl.alloc (.cells #[.slice (some ⟨b, off, none⟩) L cap, .int .i64 ((p : Int) + 1), .int .i64 0] 104)
  replace hbel := hbel.alloc hbel.size (.cells #[.slice (some ⟨b, off, none⟩) L cap, .int .i64 ((p : Int) + 1), .int .i64 0] 104)
  go_upto_region 8 with fail
  rw [hsz3] at oR
  obtain ⟨r, hr⟩ : ∃ r, w2.heap.size + 1 = r := ⟨_, rfl⟩
  obtain ⟨gl, hgl⟩ : ∃ gl, w2.heap.size = gl := ⟨_, rfl⟩
  obtain ⟨gx, hgx⟩ : ∃ gx, w.heap.size + 1 = gx := ⟨_, rfl⟩
  have d1 : ¬ w.heap.size = r := by omega
  have d2 : ¬ gx = r := by omega
  have d3 : ¬ gl = r := by omega
  have d4 : ¬ b = r := by omega
  have d5 : ¬ w.heap.size = gx := by omega
  have d6 : ¬ gl = gx := by omega
  have d7 : ¬ r = gx := by omega
  have d8 : ¬ b = gx := by omega
  have d9 : ¬ r = w.heap.size := by omega
  have da : ¬ gx = w.heap.size := by omega
  have hnw : w.heap.size ≤ r := by omega
  have hnx : w.heap.size ≤ gx := by omega
  generalize w3.alloc (.cells #[.slice (some ⟨b, off, none⟩) L cap, .int .i64 ((p : Int) + 1), .int .i64 0] 104) = w4 at *
  rw [hr] at oR
  rw [hgx] at oX
  rw [hgl] at oL
  simp only [hr, hgx]
  simp only [hgl]
  clear hgl hr hgx hsz3 hx2
  have oRR : Own w4 r (rdC (some ⟨b, off, none⟩) L cap (p + 1, 0)) 104 := by
    unfold rdC
    rw [show (((p + 1, 0) : St).1 : Int) = (p : Int) + 1 by simp, show (((p + 1, 0) : St).2 : Int) = 0 by rfl]
    exact oR
  clear oR
  have hcall1 := C1.out _ r oRR hl
  clear C1
  obtain ⟨l0, l1, l2, l3, l4, l5, l6, lf⟩ := own7 oL
  go_wp2_with fail
  refine hcall1.mono ?_
  rintro e w5 ⟨rfl, oR5, f5⟩
  clear l0 l1 l2 l3 l4 l5 l6 lf hcall1 oRR
  replace o4 := o4.fr f5 d1
  replace oX := oX.fr f5 d2
  replace oL := oL.fr f5 d3
  replace hl := hl.fr f5 (fun b' off' e => by cases e; exact d4)
  replace hbel := below_fr hbel f5 (fun g e => by rw [e]; exact hnw)
  clear f5
  have oX6 : Own (w5.setCell ⟨gx, 1, none⟩ (.int .i64 V1)) gx #[.int .u8 C, .int .i64 V1, .int .i64 0, .slice none 0 0] 43 := by simpa using oX.set 1 (.int .i64 V1)
  have oR6 := oR5.other (i := 1) d7 (.int .i64 V1)
  have o46 := o4.other (i := 1) d5 (.int .i64 V1)
  have oL6 := oL.other (i := 1) d6 (.int .i64 V1)
  have hl6 : Lies (w5.setCell ⟨gx, 1, none⟩ (.int .i64 V1)) (some ⟨b, off, none⟩) xs := hl.fr (F := fun g => g = gx) ((Fr.refl (fun g => g = gx) w5).set (g := gx) (.inr rfl) 1 _) (fun b' off' e => by cases e; exact d8)
  have hb6 := hbel.setCell (p := ⟨gx, 1, none⟩) hnx (.int .i64 V1)
  obtain ⟨x0, x1, x2, x3, xf⟩ := own4 oX
  go_upto_region 9 with fail
  generalize w5.setCell ⟨gx, 1, none⟩ (.int .i64 V1) = w6 at *
  clear oX oR5 o4 oL hl hbel x0 x1 x2 x3 xf
  obtain ⟨l0, l1, l2, l3, l4, l5, l6, lf⟩ := own7 oL6
  obtain ⟨x0, x1, x2, x3, xf⟩ := own4 oX6
  go_wp2_with fail
  first | rw [HCV.out] | rw [HCV2.out] | skip
  refine (C2.out _ r oR6 hl6 d4).mono ?_
  rintro e w7 ⟨va, rfl, hrow, hvn0, oR7, f7⟩
  have hvn : ∀ b, va.ownBlock = some b → w.heap.size ≤ b := fun b q => Nat.le_trans hb6.size (hvn0 b q)
  clear hvn0
  obtain ⟨ao, cp, rfl, -⟩ := hrow.shape
  have o47 := o46.fr f7 d1
  have oX7 := oX6.fr f7 d2
  have oL7 := oL6.fr f7 d3
  have hl7 := hl6.fr f7 (fun b' off' e => by cases e; exact d4)
  have hb7 := below_fr hb6 f7 (fun g e => by rw [e]; exact hnw)
  clear f7 o46 oX6 oL6 hl6 hb6 oR6 x0 x1 x2 x3 xf l0 l1 l2 l3 l4 l5 l6 lf
  obtain ⟨va, hva⟩ : ∃ va : Value, va = .slice ao (VA, s2).1.length cp := ⟨_, rfl⟩
  have oX6 : Own (w7.setCell ⟨gx, 3, none⟩ (.slice ao (VA, s2).1.length cp)) gx #[.int .u8 C, .int .i64 V1, .int .i64 0, .slice ao (VA, s2).1.length cp] 43 := by simpa using oX7.set 3 (.slice ao (VA, s2).1.length cp)
  have oR6 := oR7.other (i := 3) d7 (.slice ao (VA, s2).1.length cp)
  have o46 := o47.other (i := 3) d5 (.slice ao (VA, s2).1.length cp)
  have oL6 := oL7.other (i := 3) d6 (.slice ao (VA, s2).1.length cp)
  have hl6 : Lies (w7.setCell ⟨gx, 3, none⟩ (.slice ao (VA, s2).1.length cp)) (some ⟨b, off, none⟩) xs := hl7.fr (F := fun g => g = gx) ((Fr.refl (fun g => g = gx) w7).set (g := gx) (.inr rfl) 3 _) (fun b' off' e => by cases e; exact d8)
  have hb6 := hb7.setCell (p := ⟨gx, 3, none⟩) hnx (.slice ao (VA, s2).1.length cp)
  have hrow6 := hrow.set (hrow.ne oX7 (by decide)) 3 (.slice ao (VA, s2).1.length cp)
  obtain ⟨x0, x1, x2, x3, xf⟩ := own4 oX7
  go_upto_region 11 with fail
  generalize w7.setCell ⟨gx, 3, none⟩ (.slice ao (VA, s2).1.length cp) = w6' at *
  clear oX7 oR7 o47 oL7 hl7 hb7 x0 x1 x2 x3 xf hrow
  have hrow := hrow6
  clear hrow6
  rw [← hva] at oX6 hrow hvn
  clear hva
  obtain ⟨l0, l1, l2, l3, l4, l5, l6, lf⟩ := own7 oL6
  obtain ⟨x0, x1, x2, x3, xf⟩ := own4 oX6
  go_wp2_with fail
  refine (C3.out _ r oR6 hl6).mono ?_
  rintro e w8 ⟨rfl, oR8, f8⟩
  clear l0 l1 l2 l3 l4 l5 l6 lf C3 x0 x1 x2 x3 xf
  replace o46 := o46.fr f8 d1
  replace oX6 := oX6.fr f8 d2
  replace hb6 := below_fr hb6 f8 (fun g e => by rw [e]; exact hnw)
  replace hrow := hrow.fr f8 (fun g q e => hrow.ne oR6 (by decide) (by rw [q, e]))
  clear f8 oR6 oL6 hl6
  have oX9 : Own (w8.setCell ⟨gx, 2, none⟩ (.int .i64 V2)) gx #[.int .u8 C, .int .i64 V1, .int .i64 V2, va] 43 := by simpa using oX6.set 2 (.int .i64 V2)
  have oR9 := oR8.other (i := 2) d7 (.int .i64 V2)
  have o49 := o46.other (i := 2) d5 (.int .i64 V2)
  have hb9 := hb6.setCell (p := ⟨gx, 2, none⟩) hnx (.int .i64 V2)
  have hrow9 := hrow.set (hrow.ne oX6 (by decide)) 2 (.int .i64 V2)
  obtain ⟨x0, x1, x2, x3, xf⟩ := own4 oX6
  go_upto_region 12 with fail
  generalize w8.setCell ⟨gx, 2, none⟩ (.int .i64 V2) = w9 at *
  clear oX6 oR8 o46 hb6 x0 x1 x2 x3 xf hrow
  obtain ⟨x0, x1, x2, x3, xf⟩ := own4 oX9
  obtain ⟨r0, r1, r2, rf⟩ := own3 oR9
  obtain ⟨y0, y1, y2, y3, yf⟩ := own4 o49
  obtain ⟨ao9, cp9, rfl, -⟩ := hrow9.shape
  have HZ : Hid (∀ (wz : World) (e : Ending), Fr (fun g => g = w.heap.size) w9 wz → (s3.2 ≠ 0 → e = .returned (.tuple #[insV zI (.slice none 0 0), .int .i64 0, .int .i64 (s3.2 : Int)])) → (s3.2 = 0 → e = .returned (.tuple #[.agg #[.int .u8 C, .int .i64 V1, .int .i64 V2, .slice ao9 (VA, s2).1.length cp9], .int .i64 (s3.1 : Int), .int .i64 0])) → DecRet w R e wz) := by
    intro wz e fz h1 h2
    have hbz := below_fr hb9 fz (fun g e => by rw [e]; exact Nat.le_refl _)
    rw [HRR.out]
    by_cases q : s3.2 = 0
    · rw [if_neg (by omega), h2 q]
      refine ⟨_, ?_, hrow9.fr fz (fun g q e => hrow9.ne o49 (by decide) (by rw [q, e])), hvn, hbz⟩
      show _ = Ending.returned (.tuple #[insV ⟨c, V1, V2, VA⟩ (.slice ao9 (VA, s2).1.length cp9), .int .i64 (s3.1 : Int), .int .i64 ((0 : Nat) : Int)])
      unfold insV
      rw [HC.out]; rfl
    · rw [if_pos q, h1 q]
      exact ⟨_, rfl, World.ownsRow_nil _ _ _ _, by simp [Value.ownBlock], hbz⟩
  clear oX9 oR9 hb9 hrow9 hvn
  by_cases hz3 : s3.2 = 0
  · have hq : (s3.2 : Int) = 0 := by omega
    rw [hq] at r2
    obtain ⟨P1, HP1⟩ : ∃ P1 : Int, Hid ((s3.1 : Int) = P1) := ⟨_, rfl⟩
    rw [HP1.out] at r1 HZ
    go_wp2_with fail
    go_region_held3 (fun w' => w'.cell? ⟨gx, 0, none⟩ = some (.int .u8 C) ∧ w'.cell? ⟨gx, 1, none⟩ = some (.int .i64 V1) ∧ w'.cell? ⟨gx, 2, none⟩ = some (.int .i64 V2) ∧ w'.cell? ⟨gx, 3, none⟩ = some (.slice ao9 (VA, s2).1.length cp9) ∧ w'.cell? ⟨r, 1, none⟩ = some (.int .i64 P1)) (go_keep) (fail)
    go_wp2_with fail
    refine bodyPost_cell3 (g := w.heap.size) (t := 43) rfl rfl rfl (own_put4 o49 _ _ _ _) Tryz.underlying43 rfl (by kernel_rfl) ?_
    exact HZ.out _ _ (fr_put4 _ _ _ _ _ _) (fun q => absurd hz3 q) (fun _ => rfl)
  · have hq : (((s3.2 : Nat) : Int) == 0) = false := by simp; omega
    obtain ⟨Q1, HQ1⟩ : ∃ Q1 : Int, Hid ((s3.2 : Int) = Q1) := ⟨_, rfl⟩
    rw [HQ1.out] at r2 HZ hq
    go_wp2_with fail
    go_region_held3 (fun w' => w'.cell? ⟨r, 2, none⟩ = some (.int .i64 Q1)) (go_keep) (fail)
    go_wp2_with fail
    refine bodyPost_cell3 (g := w.heap.size) (t := 43) rfl rfl rfl (own_put4 o49 _ _ _ _) Tryz.underlying43 rfl (by kernel_rfl) ?_
    exact HZ.out _ _ (fr_put4 _ _ _ _ _ _) (fun _ => rfl) (fun q => absurd q hz3)
/-- Decode, of whatever bytes, at whatever place. -/
theorem dec_as {w : World} {a : Option Addr} {L cap : Nat} {xs : List Nat} (hl : Lies w a xs) (hL : L = xs.length) (p : Int) :
    Calls Tryz.prog 36 #[.slice a L cap, .int .i64 p] w (DecRet w (dec xs p)) := by
  by_cases h : p < 0 ∨ (xs.length : Int) ≤ p
  · exact dec_bad_place hL p h
  · obtain ⟨k, rfl⟩ := Int.eq_ofNat_of_zero_le (show 0 ≤ p by omega)
    have hk : k < xs.length := by omega
    rcases hl.2.2 with h0 | ⟨b, off, rfl, hc⟩
    · subst h0; cases hk
    · have hcell := hc k hk
      rcases lay_as (xs.getD k 0) with ⟨h1, h2⟩ | ⟨l, wa, fa, wb, fb, h1, h2, h3, h4⟩
      · exact dec_no_op hL k (by omega) _ rfl hcell (by rw [hL]; exact hl.2.1) h1 h2
      · cases har : l.arms with
        | false => exact dec_plain hl hL k (by omega) _ rfl hcell l wa fa wb fb h1 h2 h3 har h4
        | true => exact dec_switch hl hL k (by omega) _ rfl hcell l wa fa wb fb h1 h2 h3 har h4
end Go.Proofs.YtkmmnocooibljaaGreatDoor
