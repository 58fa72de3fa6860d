/-
  Ec, what is reached of it.
-/
import Derived.Test.YtkmmnocooibljaaGreatDoorLz
import Derived.Test.YtkmmnocooibljaaGreatDoorEnq
namespace Go.Proofs.YtkmmnocooibljaaGreatDoor
open Go.ChangeShapes Go.WideShapes Go.ChangeAt Go.RowKit Go.Deep
set_option linter.unusedVariables false

theorem enc_none {w : World} {x : In} {e : Ending} {w' : World} (hk : x.ok = false) (he : e = .returned (.tuple #[.slice none 0 0, .int .i64 120])) (hb : Below w.heap.size w w') : EncRet w x e w' := by
  have h0 : x.enc = [] := by
    have h1 := enc_length x
    have h2 : x.size = 0 := by
      have := size_pos x
      rw [hk] at this
      have h3 : ¬ 0 < x.size := fun q => by have := this.2 q; cases this
      omega
    rw [h2] at h1
    exact List.eq_nil_of_length_eq_zero h1
  refine ⟨.slice none 0 0, ?_, ?_, by simp [Value.ownBlock], hb⟩
  · rw [hk]; exact he
  · rw [h0]; exact World.ownsRow_nil _ _ _ _
theorem below_wr {w X Y : World} {p : Nat} (h : Below w.heap.size w X) (k : WrFr p w.heap.size X Y) (hp : w.heap.size ≤ p) : Below w.heap.size w Y := below_fr h k.fr (fun g q => by rcases q with q | q <;> omega)
set_option maxHeartbeats 2000000 in
set_option maxRecDepth 100000 in
theorem enc_no_op {w : World} {x : In} {ao : Option Addr} {cp : Nat} (n : Nat) (h1 : lay x.op = none) (h2 : ∀ w, Calls Tryz.prog 60 #[.int .u8 (x.op : Int)] w fun e w' => e = .returned (.tuple #[layZ, .bool false]) ∧ Below w.heap.size w w') :
    Calls Tryz.prog 77 #[insV x (.slice ao n cp)] w (EncRet w x) := by
  have oX := Own.new w #[.int .u8 (x.op : Int), .int .i64 x.a, .int .i64 x.b, .slice ao n cp] 43
  have hb0 := new_below w (.cells #[.int .u8 (x.op : Int), .int .i64 x.a, .int .i64 x.b, .slice ao n cp] 43)
  have hk : x.ok = false := by unfold In.ok; rw [h1]
  have HZ : Hid (∀ wz, Below w.heap.size w wz → EncRet w x (.returned (.tuple #[.slice none 0 0, .int .i64 120])) wz) := fun wz h => enc_none hk rfl h
  unfold insV
  clear hk h1
  generalize (x.op : Int) = N at *
  go_enter Tryz.func77, Tryz.ntmps77
  go_upto_region 1 with fail
  generalize w.alloc (.cells #[.int .u8 N, .int .i64 x.a, .int .i64 x.b, .slice ao n cp] 43) = w1 at *
  obtain ⟨x0, x1, x2, x3, xf⟩ := own4 oX
  go_wp2_with fail
  refine (h2 _).mono ?_
  rintro e w2 ⟨rfl, b2⟩
  replace hb0 := hb0.trans (b2.mono hb0.size)
  clear b2 x0 x1 x2 x3 xf oX
  go_wp2
  go_ret2
  exact HZ.out _ (hb0.alloc hb0.size _)
set_option maxHeartbeats 4000000 in
set_option maxRecDepth 100000 in
theorem enc_plain {w : World} {x : In} {ao : Option Addr} {cp : Nat} (hl : InLies w x ao) (n : Nat) (hn : n = x.arms.length) (hmx : n ≤ 1000000) (l : Lay) (wa : Int) (fa : Nat) (wb : Int) (fb : Nat) (h1 : lay x.op = some l) (hka : NumIs l.a wa fa) (hkb : NumIs l.b wb fb) (har : l.arms = false)
    (h4 : ∀ w, Calls Tryz.prog 60 #[.int .u8 (x.op : Int)] w fun e w' => e = .returned (.tuple #[layV l wa fa wb fb, .bool true]) ∧ Below w.heap.size w w') :
    Calls Tryz.prog 77 #[insV x (.slice ao n cp)] w (EncRet w x) := by
  have hok := (lay_ok h1).1
  have HAS : Hid (∀ W, Below w.heap.size w W → Calls Tryz.prog 63 #[layV l wa fa wb fb, insV x (.slice ao n cp)] W fun e w' => e = .returned (.bool (l.has x)) ∧ Below W.heap.size W w') := fun W hW => has_as l wa fa wb fb hok hka hkb (hl.below hW) n hn hmx
  have HSZ : Hid (∀ W, Calls Tryz.prog 64 #[layV l wa fa wb fb, .int .i64 (n : Int)] W fun e w' => e = .returned (.int .i64 (l.size n : Int)) ∧ Below W.heap.size W w') := fun W => lsize_as l wa fa wb fb hka.ok.sz hkb.ok.sz n hmx W
  have hszb : l.size n ≤ 100000000 := by
    have := hka.ok.sz
    have := hkb.ok.sz
    unfold Lay.size; split <;> omega
  have hbyte : x.op < 256 := hl.op
  have HOK : Hid (x.ok = l.has x) := by unfold Hid In.ok; rw [h1]
  have HENC : Hid (l.has x = true → x.enc = (([x.op] ++ l.a.put x.a) ++ l.b.put x.b)) := by
    intro q
    unfold In.enc
    rw [h1]
    simp only [q, if_true]
    unfold Lay.put Lay.putArms
    rw [har]
    simp
  have NA : Hid (∀ W p xs, WrAt W p w.heap.size xs → w.heap.size ≤ W.heap.size → xs.length ≤ 10000000000 → Calls Tryz.prog 107 #[ptr p, numV l.a.sz wa fa, .int .i64 x.a] W (WrRet p w.heap.size (xs ++ l.a.put x.a) W)) := fun W p xs q1 q2 q3 => wnum_as hka.ok.sz q1 q2 x.a q3
  have NB : Hid (∀ W p xs, WrAt W p w.heap.size xs → w.heap.size ≤ W.heap.size → xs.length ≤ 10000000000 → Calls Tryz.prog 107 #[ptr p, numV l.b.sz wb fb, .int .i64 x.b] W (WrRet p w.heap.size (xs ++ l.b.put x.b) W)) := fun W p xs q1 q2 q3 => wnum_as hkb.ok.sz q1 q2 x.b q3
  have hlA : (l.a.put x.a).length ≤ 8 := by rw [Nm.put_length]; exact hka.ok.sz
  have HZ : Hid (∀ wz v, x.ok = true → Rw wz 5 1 v x.enc.length (nums x.enc) → (∀ b, v.ownBlock = some b → w.heap.size ≤ b) → Below w.heap.size w wz → EncRet w x (.returned (.tuple #[v, .int .i64 0])) wz) := fun wz v q1 q2 q3 q4 => ⟨v, by rw [if_pos q1], q2, q3, q4⟩
  have HZ0 : Hid (∀ wz, x.ok = false → Below w.heap.size w wz → EncRet w x (.returned (.tuple #[.slice none 0 0, .int .i64 120])) wz) := fun wz hk h => enc_none hk rfl h
  unfold insV at HAS ⊢
  unfold layV at HAS HSZ h4
  rw [har] at HAS HSZ h4
  obtain ⟨P1, hP1⟩ : ∃ P1, l.a.put x.a = P1 := ⟨_, rfl⟩
  obtain ⟨P2, hP2⟩ : ∃ P2, l.b.put x.b = P2 := ⟨_, rfl⟩
  rw [hP1] at NA hlA HENC
  rw [hP2] at NB HENC
  obtain ⟨SZ, hSZ⟩ : ∃ SZ : Nat, l.size n = SZ := ⟨_, rfl⟩
  rw [hSZ] at HSZ hszb
  generalize l.has x = H at *
  clear hka hkb hok h1 hP1 hP2 hSZ har hl hn
  generalize (l.a.sz : Int) = za at *
  generalize (l.b.sz : Int) = zb at *
  obtain ⟨N, hN⟩ : ∃ N : Int, (x.op : Int) = N := ⟨_, rfl⟩
  have HB1 : Hid (nums [x.op] = [.int .u8 N]) := by unfold Hid; rw [← hN]; rfl
  rw [hN] at HAS h4 ⊢
  generalize x.a = XA at *
  generalize x.b = XB at *
  generalize x.op = OP at *
  have oX := Own.new w #[.int .u8 N, .int .i64 XA, .int .i64 XB, .slice ao n cp] 43
  have hb0 := new_below w (.cells #[.int .u8 N, .int .i64 XA, .int .i64 XB, .slice ao n cp] 43)
  clear hN
  go_enter Tryz.func77, Tryz.ntmps77
  go_upto_region 1 with fail
  generalize w.alloc (.cells #[.int .u8 N, .int .i64 XA, .int .i64 XB, .slice ao n cp] 43) = w1 at *
  obtain ⟨x0, x1, x2, x3, xf⟩ := own4 oX
  go_wp2_with fail
  refine (h4 _).mono ?_
  rintro e w2 ⟨rfl, b2⟩
  replace hb0 := hb0.trans (b2.mono hb0.size)
  replace oX := oX.below b2
  clear b2 x0 x1 x2 x3 xf h4
  have oL := Own.new w2 #[.int .i64 za, .int .u8 wa, .func (.func fa) #[] #[], .int .i64 zb, .int .u8 wb, .func (.func fb) #[] #[], .bool false] 100
  replace oX := oX.alloc (.cells #[.int .i64 za, .int .u8 wa, .func (.func fa) #[] #[], .int .i64 zb, .int .u8 wb, .func (.func fb) #[] #[], .bool false] 100)
  have hgl : w.heap.size ≤ w2.heap.size := hb0.size
  replace hb0 := hb0.alloc hb0.size (.cells #[.int .i64 za, .int .u8 wa, .func (.func fa) #[] #[], .int .i64 zb, .int .u8 wb, .func (.func fb) #[] #[], .bool false] 100)
  go_upto_region 2 with fail
  obtain ⟨gl, hgle⟩ : ∃ gl, w2.heap.size = gl := ⟨_, rfl⟩
  generalize w2.alloc (.cells #[.int .i64 za, .int .u8 wa, .func (.func fa) #[] #[], .int .i64 zb, .int .u8 wb, .func (.func fb) #[] #[], .bool false] 100) = w3 at *
  rw [hgle] at oL
  simp only [hgle]
  clear hgle hgl
  obtain ⟨x0, x1, x2, x3, xf⟩ := own4 oX
  obtain ⟨l0, l1, l2, l3, l4, l5, l6, lf⟩ := own7 oL
  have hcall := HAS.out w3 hb0
  go_wp2_with fail
  refine hcall.mono ?_
  rintro e w4 ⟨rfl, b4⟩
  replace hb0 := hb0.trans (b4.mono hb0.size)
  replace oX := oX.below b4
  replace oL := oL.below b4
  clear b4 hcall HAS x0 x1 x2 x3 xf l0 l1 l2 l3 l4 l5 l6 lf
  obtain ⟨x0, x1, x2, x3, xf⟩ := own4 oX
  obtain ⟨l0, l1, l2, l3, l4, l5, l6, lf⟩ := own7 oL
  cases H with
  | false =>
    have HZ1 := HZ0.out w4 HOK.out hb0
    have HZ2 : Hid (EncRet w x (.returned (.tuple #[.slice none 0 0, .int .i64 120])) w4) := HZ1
    clear HZ1 HZ0 HZ HENC NA NB HOK
    go_wp2
    go_ret2
    exact HZ2.out
  | true =>
    have HE : Hid (x.enc = (([OP] ++ P1) ++ P2)) := HENC.out rfl
    have hokk : x.ok = true := HOK.out
    have HOK2 : Hid (x.ok = true) := hokk
    clear HZ0 HENC HOK hokk
    go_wp2_with fail
    refine (HSZ.out _).mono ?_
    rintro e w5 ⟨rfl, b5⟩
    replace hb0 := hb0.trans (b5.mono hb0.size)
    replace oX := oX.below b5
    replace oL := oL.below b5
    clear b5 HSZ x0 x1 x2 x3 xf l0 l1 l2 l3 l4 l5 l6 lf
    obtain ⟨i8, hi, hz0, hz1, hz2⟩ := info_parts info8
    have hmk : i8.bytes * SZ ≤ 281474976710656 := by rw [hz2]; omega
    go_upto_region 5 with (at_make; refine wpList_make_own _ rfl _ _ 30 rfl 0 5 i8 (.int .u8 0) 1 Tryz.underlying30 hi hz0 hz1 _ _ _ SZ rfl rfl rfl hmk (by unfold maxLen; omega) (Nat.zero_le _) ?_; intro w6 r6 g6; clear hmk hi hz0 hz1 hz2)
    have b6 : Below w5.heap.size w5 w6 := (Below.refl _ _).grown g6 (Nat.le_refl _) (by simp)
    have hg5 := hb0.size
    replace hb0 := hb0.trans (b6.mono hb0.size)
    replace oX := oX.below b6
    replace oL := oL.below b6
    clear g6 b6
    have oW := Own.new w6 #[.slice (some ⟨w5.heap.size, 0, none⟩) 0 SZ] 149
    have rW := Rw.alloc r6 (.cells #[.slice (some ⟨w5.heap.size, 0, none⟩) 0 SZ] 149)
    replace oX := oX.alloc (.cells #[.slice (some ⟨w5.heap.size, 0, none⟩) 0 SZ] 149)
    replace oL := oL.alloc (.cells #[.slice (some ⟨w5.heap.size, 0, none⟩) 0 SZ] 149)
    have hpB : w.heap.size ≤ w6.heap.size := hb0.size
    replace hb0 := hb0.alloc hb0.size (.cells #[.slice (some ⟨w5.heap.size, 0, none⟩) 0 SZ] 149)
    obtain ⟨p, hpe⟩ : ∃ p, w6.heap.size = p := ⟨_, rfl⟩
    generalize w6.alloc (.cells #[.slice (some ⟨w5.heap.size, 0, none⟩) 0 SZ] 149) = w7 at *
    rw [hpe] at oW hpB
    simp only [hpe]
    have hW : WrAt w7 p w.heap.size [] := ⟨_, oW, rW, fun b q => by cases q; exact hg5⟩
    have dX : w.heap.size ≠ p := fun e => (oX.ne oW (by decide)) e
    have dL : gl ≠ p := fun e => (oL.ne oW (by decide)) e
    clear oW rW r6 hg5
    obtain ⟨x0, x1, x2, x3, xf⟩ := own4 oX
    have oB := Own.new w7 #[.int .u8 N] 5
    have hsz7 : w7.heap.size ≤ (w7.alloc (.cells #[.int .u8 N] 5)).heap.size := by simp
    have hWB := hW.alloc (.cells #[.int .u8 N] 5)
    have hBB := Nat.le_trans hb0.size hsz7
    have hcall : Calls Tryz.prog 106 #[ptr p, .slice (some ⟨w7.heap.size, 0, none⟩) 1 1] (w7.alloc (.cells #[.int .u8 N] 5)) (WrRet p w.heap.size ([] ++ [OP]) (w7.alloc (.cells #[.int .u8 N] 5))) := by
      refine wput_as hWB hBB _ 1 1 [OP] ⟨by simpa using hbyte, by simp, .inr ⟨_, 0, rfl, fun i hi => ?_⟩⟩ rfl (fun q => by cases q) (by simp)
      have hi0 : i = 0 := by simpa using hi
      subst hi0
      have hb := HB1.out
      have : (.int .u8 (OP : Int) : Value) = .int .u8 N := by simpa [nums] using hb
      rw [oB.cell]
      simpa using this.symm
    have oX8 := oX.alloc (.cells #[.int .u8 N] 5)
    have oL8 := oL.alloc (.cells #[.int .u8 N] 5)
    have hb8 := hb0.alloc hb0.size (.cells #[.int .u8 N] 5)
    go_wp2_with fail
    refine hcall.mono ?_
    rintro e w9 ⟨rfl, hW9, f9⟩
    rw [List.nil_append] at hW9
    replace oX := f9.typ _ _ _ oX8 (by decide) dX
    replace oL := f9.typ _ _ _ oL8 (by decide) dL
    replace hb0 := below_wr hb8 f9 hpB
    clear f9 oX8 oL8 hb8 hcall oB hWB hBB hW hsz7 x0 x1 x2 x3 xf HB1
    obtain ⟨x0, x1, x2, x3, xf⟩ := own4 oX
    obtain ⟨l0, l1, l2, l3, l4, l5, l6, lf⟩ := own7 oL
    have hc1 := NA.out w9 p _ hW9 hb0.size (by simp)
    clear NA
    go_wp2_with fail
    refine hc1.mono ?_
    rintro e wa1 ⟨rfl, hWa, fa1⟩
    replace oX := fa1.typ _ _ _ oX (by decide) dX
    replace oL := fa1.typ _ _ _ oL (by decide) dL
    replace hb0 := below_wr hb0 fa1 hpB
    clear fa1 hc1 hW9 x0 x1 x2 x3 xf l0 l1 l2 l3 l4 l5 l6 lf
    obtain ⟨x0, x1, x2, x3, xf⟩ := own4 oX
    obtain ⟨l0, l1, l2, l3, l4, l5, l6, lf⟩ := own7 oL
    have hc2 := NB.out _ p _ hWa hb0.size (by simp only [List.length_append, List.length_singleton]; omega)
    clear NB
    go_wp2_with fail
    refine hc2.mono ?_
    rintro e wb1 ⟨rfl, ⟨v, oV, rV, nV⟩, fb1⟩
    replace hb0 := below_wr hb0 fb1 hpB
    rw [← HE.out] at rV
    obtain ⟨va, vc, rfl, -⟩ := rV.shape
    obtain ⟨c0, cf⟩ := own1 oV
    have HF : Hid (EncRet w x (.returned (.tuple #[.slice va x.enc.length vc, .int .i64 0])) wb1) := HZ.out _ _ HOK2.out rV nV hb0
    clear HZ rV nV oV fb1 hc2 x0 x1 x2 x3 xf l0 l1 l2 l3 l4 l5 l6 lf
    go_wp2
    go_ret2
    exact HF.out
set_option maxHeartbeats 4000000 in
set_option maxRecDepth 100000 in
theorem enc_switch {w : World} {x : In} {ao : Option Addr} {cp : Nat} (hl : InLies w x ao) (n : Nat) (hn : n = x.arms.length) (hmx : n ≤ 1000000) (l : Lay) (wa : Int) (fa : Nat) (wb : Int) (fb : Nat) (h1 : lay x.op = some l) (hka : NumIs l.a wa fa) (hkb : NumIs l.b wb fb) (har : l.arms = true)
    (h4 : ∀ w, Calls Tryz.prog 60 #[.int .u8 (x.op : Int)] w fun e w' => e = .returned (.tuple #[layV l wa fa wb fb, .bool true]) ∧ Below w.heap.size w w') :
    Calls Tryz.prog 77 #[insV x (.slice ao n cp)] w (EncRet w x) := by
  have hok := (lay_ok h1).1
  have HAS : Hid (∀ W, Below w.heap.size w W → Calls Tryz.prog 63 #[layV l wa fa wb fb, insV x (.slice ao n cp)] W fun e w' => e = .returned (.bool (l.has x)) ∧ Below W.heap.size W w') := fun W hW => has_as l wa fa wb fb hok hka hkb (hl.below hW) n hn hmx
  have HSZ : Hid (∀ W, Calls Tryz.prog 64 #[layV l wa fa wb fb, .int .i64 (n : Int)] W fun e w' => e = .returned (.int .i64 (l.size n : Int)) ∧ Below W.heap.size W w') := fun W => lsize_as l wa fa wb fb hka.ok.sz hkb.ok.sz n hmx W
  have hszb : l.size n ≤ 100000000 := by
    have := hka.ok.sz
    have := hkb.ok.sz
    unfold Lay.size; split <;> omega
  have hbyte : x.op < 256 := hl.op
  have HOK : Hid (x.ok = l.has x) := by unfold Hid In.ok; rw [h1]
  have HENC : Hid (l.has x = true → x.enc = ((([x.op] ++ l.a.put x.a) ++ (nShort.put x.arms.length ++ (x.arms.map putArm).flatten)) ++ l.b.put x.b)) := by
    intro q
    unfold In.enc
    rw [h1]
    simp only [q, if_true]
    unfold Lay.put Lay.putArms
    rw [har]
    simp
  have NA : Hid (∀ W p xs, WrAt W p w.heap.size xs → w.heap.size ≤ W.heap.size → xs.length ≤ 10000000000 → Calls Tryz.prog 107 #[ptr p, numV l.a.sz wa fa, .int .i64 x.a] W (WrRet p w.heap.size (xs ++ l.a.put x.a) W)) := fun W p xs q1 q2 q3 => wnum_as hka.ok.sz q1 q2 x.a q3
  have NB : Hid (∀ W p xs, WrAt W p w.heap.size xs → w.heap.size ≤ W.heap.size → xs.length ≤ 10000000000 → Calls Tryz.prog 107 #[ptr p, numV l.b.sz wb fb, .int .i64 x.b] W (WrRet p w.heap.size (xs ++ l.b.put x.b) W)) := fun W p xs q1 q2 q3 => wnum_as hkb.ok.sz q1 q2 x.b q3
  have NC : Hid (∀ W p xs, WrAt W p w.heap.size xs → Below w.heap.size w W → w.heap.size ≤ p → xs.length ≤ 1000000 → Calls Tryz.prog 108 #[ptr p, .slice ao n cp] W (WrRet p w.heap.size (xs ++ (nShort.put x.arms.length ++ (x.arms.map putArm).flatten)) W)) := fun W p xs q1 q2 q3 q4 => warms_as q1 q2.size q3 (hl.arms.below q2) (fun b off e hne => by
    rcases hl.arms.lies with h0 | ⟨b', off', e', hb', _⟩
    · exact absurd h0 hne
    · rw [e] at e'; cases e'; exact hb') n hn hmx q4
  have hlC : (nShort.put x.arms.length ++ (x.arms.map putArm).flatten).length ≤ 100000000 := by rw [List.length_append, Nm.put_length, putArms_flat]; show 2 + _ ≤ _; omega
  have hlA : (l.a.put x.a).length ≤ 8 := by rw [Nm.put_length]; exact hka.ok.sz
  have HZ : Hid (∀ wz v, x.ok = true → Rw wz 5 1 v x.enc.length (nums x.enc) → (∀ b, v.ownBlock = some b → w.heap.size ≤ b) → Below w.heap.size w wz → EncRet w x (.returned (.tuple #[v, .int .i64 0])) wz) := fun wz v q1 q2 q3 q4 => ⟨v, by rw [if_pos q1], q2, q3, q4⟩
  have HZ0 : Hid (∀ wz, x.ok = false → Below w.heap.size w wz → EncRet w x (.returned (.tuple #[.slice none 0 0, .int .i64 120])) wz) := fun wz hk h => enc_none hk rfl h
  unfold insV at HAS ⊢
  unfold layV at HAS HSZ h4
  rw [har] at HAS HSZ h4
  obtain ⟨P1, hP1⟩ : ∃ P1, l.a.put x.a = P1 := ⟨_, rfl⟩
  obtain ⟨P2, hP2⟩ : ∃ P2, l.b.put x.b = P2 := ⟨_, rfl⟩
  rw [hP1] at NA hlA HENC
  rw [hP2] at NB HENC
  obtain ⟨SZ, hSZ⟩ : ∃ SZ : Nat, l.size n = SZ := ⟨_, rfl⟩
  rw [hSZ] at HSZ hszb
  obtain ⟨PC, hPC⟩ : ∃ PC, (nShort.put x.arms.length ++ (x.arms.map putArm).flatten) = PC := ⟨_, rfl⟩
  rw [hPC] at NC HENC hlC
  clear hPC
  generalize l.has x = H at *
  clear hka hkb hok h1 hP1 hP2 hSZ har hl hn
  generalize (l.a.sz : Int) = za at *
  generalize (l.b.sz : Int) = zb at *
  obtain ⟨N, hN⟩ : ∃ N : Int, (x.op : Int) = N := ⟨_, rfl⟩
  have HB1 : Hid (nums [x.op] = [.int .u8 N]) := by unfold Hid; rw [← hN]; rfl
  rw [hN] at HAS h4 ⊢
  generalize x.a = XA at *
  generalize x.b = XB at *
  generalize x.op = OP at *
  have oX := Own.new w #[.int .u8 N, .int .i64 XA, .int .i64 XB, .slice ao n cp] 43
  have hb0 := new_below w (.cells #[.int .u8 N, .int .i64 XA, .int .i64 XB, .slice ao n cp] 43)
  clear hN
  go_enter Tryz.func77, Tryz.ntmps77
  go_upto_region 1 with fail
  generalize w.alloc (.cells #[.int .u8 N, .int .i64 XA, .int .i64 XB, .slice ao n cp] 43) = w1 at *
  obtain ⟨x0, x1, x2, x3, xf⟩ := own4 oX
  go_wp2_with fail
  refine (h4 _).mono ?_
  rintro e w2 ⟨rfl, b2⟩
  replace hb0 := hb0.trans (b2.mono hb0.size)
  replace oX := oX.below b2
  clear b2 x0 x1 x2 x3 xf h4
  have oL := Own.new w2 #[.int .i64 za, .int .u8 wa, .func (.func fa) #[] #[], .int .i64 zb, .int .u8 wb, .func (.func fb) #[] #[], .bool true] 100
  replace oX := oX.alloc (.cells #[.int .i64 za, .int .u8 wa, .func (.func fa) #[] #[], .int .i64 zb, .int .u8 wb, .func (.func fb) #[] #[], .bool true] 100)
  have hgl : w.heap.size ≤ w2.heap.size := hb0.size
  replace hb0 := hb0.alloc hb0.size (.cells #[.int .i64 za, .int .u8 wa, .func (.func fa) #[] #[], .int .i64 zb, .int .u8 wb, .func (.func fb) #[] #[], .bool true] 100)
  go_upto_region 2 with fail
  obtain ⟨gl, hgle⟩ : ∃ gl, w2.heap.size = gl := ⟨_, rfl⟩
  generalize w2.alloc (.cells #[.int .i64 za, .int .u8 wa, .func (.func fa) #[] #[], .int .i64 zb, .int .u8 wb, .func (.func fb) #[] #[], .bool true] 100) = w3 at *
  rw [hgle] at oL
  simp only [hgle]
  clear hgle hgl
  obtain ⟨x0, x1, x2, x3, xf⟩ := own4 oX
  obtain ⟨l0, l1, l2, l3, l4, l5, l6, lf⟩ := own7 oL
  have hcall := HAS.out w3 hb0
  go_wp2_with fail
  refine hcall.mono ?_
  rintro e w4 ⟨rfl, b4⟩
  replace hb0 := hb0.trans (b4.mono hb0.size)
  replace oX := oX.below b4
  replace oL := oL.below b4
  clear b4 hcall HAS x0 x1 x2 x3 xf l0 l1 l2 l3 l4 l5 l6 lf
  obtain ⟨x0, x1, x2, x3, xf⟩ := own4 oX
  obtain ⟨l0, l1, l2, l3, l4, l5, l6, lf⟩ := own7 oL
  cases H with
  | false =>
    have HZ1 := HZ0.out w4 HOK.out hb0
    have HZ2 : Hid (EncRet w x (.returned (.tuple #[.slice none 0 0, .int .i64 120])) w4) := HZ1
    clear HZ1 HZ0 HZ HENC NA NB HOK
    go_wp2
    go_ret2
    exact HZ2.out
  | true =>
    have HE : Hid (x.enc = ((([OP] ++ P1) ++ PC) ++ P2)) := HENC.out rfl
    have hokk : x.ok = true := HOK.out
    have HOK2 : Hid (x.ok = true) := hokk
    clear HZ0 HENC HOK hokk
    go_wp2_with fail
    refine (HSZ.out _).mono ?_
    rintro e w5 ⟨rfl, b5⟩
    replace hb0 := hb0.trans (b5.mono hb0.size)
    replace oX := oX.below b5
    replace oL := oL.below b5
    clear b5 HSZ x0 x1 x2 x3 xf l0 l1 l2 l3 l4 l5 l6 lf
    obtain ⟨i8, hi, hz0, hz1, hz2⟩ := info_parts info8
    have hmk : i8.bytes * SZ ≤ 281474976710656 := by rw [hz2]; omega
    go_upto_region 5 with (at_make; refine wpList_make_own _ rfl _ _ 30 rfl 0 5 i8 (.int .u8 0) 1 Tryz.underlying30 hi hz0 hz1 _ _ _ SZ rfl rfl rfl hmk (by unfold maxLen; omega) (Nat.zero_le _) ?_; intro w6 r6 g6; clear hmk hi hz0 hz1 hz2)
    have b6 : Below w5.heap.size w5 w6 := (Below.refl _ _).grown g6 (Nat.le_refl _) (by simp)
    have hg5 := hb0.size
    replace hb0 := hb0.trans (b6.mono hb0.size)
    replace oX := oX.below b6
    replace oL := oL.below b6
    clear g6 b6
    have oW := Own.new w6 #[.slice (some ⟨w5.heap.size, 0, none⟩) 0 SZ] 149
    have rW := Rw.alloc r6 (.cells #[.slice (some ⟨w5.heap.size, 0, none⟩) 0 SZ] 149)
    replace oX := oX.alloc (.cells #[.slice (some ⟨w5.heap.size, 0, none⟩) 0 SZ] 149)
    replace oL := oL.alloc (.cells #[.slice (some ⟨w5.heap.size, 0, none⟩) 0 SZ] 149)
    have hpB : w.heap.size ≤ w6.heap.size := hb0.size
    replace hb0 := hb0.alloc hb0.size (.cells #[.slice (some ⟨w5.heap.size, 0, none⟩) 0 SZ] 149)
    obtain ⟨p, hpe⟩ : ∃ p, w6.heap.size = p := ⟨_, rfl⟩
    generalize w6.alloc (.cells #[.slice (some ⟨w5.heap.size, 0, none⟩) 0 SZ] 149) = w7 at *
    rw [hpe] at oW hpB
    simp only [hpe]
    have hW : WrAt w7 p w.heap.size [] := ⟨_, oW, rW, fun b q => by cases q; exact hg5⟩
    have dX : w.heap.size ≠ p := fun e => (oX.ne oW (by decide)) e
    have dL : gl ≠ p := fun e => (oL.ne oW (by decide)) e
    clear oW rW r6 hg5
    obtain ⟨x0, x1, x2, x3, xf⟩ := own4 oX
    have oB := Own.new w7 #[.int .u8 N] 5
    have hsz7 : w7.heap.size ≤ (w7.alloc (.cells #[.int .u8 N] 5)).heap.size := by simp
    have hWB := hW.alloc (.cells #[.int .u8 N] 5)
    have hBB := Nat.le_trans hb0.size hsz7
    have hcall : Calls Tryz.prog 106 #[ptr p, .slice (some ⟨w7.heap.size, 0, none⟩) 1 1] (w7.alloc (.cells #[.int .u8 N] 5)) (WrRet p w.heap.size ([] ++ [OP]) (w7.alloc (.cells #[.int .u8 N] 5))) := by
      refine wput_as hWB hBB _ 1 1 [OP] ⟨by simpa using hbyte, by simp, .inr ⟨_, 0, rfl, fun i hi => ?_⟩⟩ rfl (fun q => by cases q) (by simp)
      have hi0 : i = 0 := by simpa using hi
      subst hi0
      have hb := HB1.out
      have : (.int .u8 (OP : Int) : Value) = .int .u8 N := by simpa [nums] using hb
      rw [oB.cell]
      simpa using this.symm
    have oX8 := oX.alloc (.cells #[.int .u8 N] 5)
    have oL8 := oL.alloc (.cells #[.int .u8 N] 5)
    have hb8 := hb0.alloc hb0.size (.cells #[.int .u8 N] 5)
    go_wp2_with fail
    refine hcall.mono ?_
    rintro e w9 ⟨rfl, hW9, f9⟩
    rw [List.nil_append] at hW9
    replace oX := f9.typ _ _ _ oX8 (by decide) dX
    replace oL := f9.typ _ _ _ oL8 (by decide) dL
    replace hb0 := below_wr hb8 f9 hpB
    clear f9 oX8 oL8 hb8 hcall oB hWB hBB hW hsz7 x0 x1 x2 x3 xf HB1
    obtain ⟨x0, x1, x2, x3, xf⟩ := own4 oX
    obtain ⟨l0, l1, l2, l3, l4, l5, l6, lf⟩ := own7 oL
    have hc1 := NA.out w9 p _ hW9 hb0.size (by simp)
    clear NA
    go_wp2_with fail
    refine hc1.mono ?_
    rintro e wa1 ⟨rfl, hWa, fa1⟩
    replace oX := fa1.typ _ _ _ oX (by decide) dX
    replace oL := fa1.typ _ _ _ oL (by decide) dL
    replace hb0 := below_wr hb0 fa1 hpB
    clear fa1 hc1 hW9 x0 x1 x2 x3 xf l0 l1 l2 l3 l4 l5 l6 lf
    obtain ⟨x0, x1, x2, x3, xf⟩ := own4 oX
    obtain ⟨l0, l1, l2, l3, l4, l5, l6, lf⟩ := own7 oL
    have hc3 := NC.out wa1 p _ hWa hb0 hpB (by simp; omega)
    clear NC
    go_wp2_with fail
    refine hc3.mono ?_
    rintro e wc1 ⟨rfl, hWc, fc1⟩
    replace oX := fc1.typ _ _ _ oX (by decide) dX
    replace oL := fc1.typ _ _ _ oL (by decide) dL
    replace hb0 := below_wr hb0 fc1 hpB
    clear fc1 hc3 hWa x0 x1 x2 x3 xf l0 l1 l2 l3 l4 l5 l6 lf
    have hWa := hWc
    clear hWc
    obtain ⟨x0, x1, x2, x3, xf⟩ := own4 oX
    obtain ⟨l0, l1, l2, l3, l4, l5, l6, lf⟩ := own7 oL
    have hc2 := NB.out _ p _ hWa hb0.size (by simp only [List.length_append, List.length_singleton]; omega)
    clear NB
    go_wp2_with fail
    refine hc2.mono ?_
    rintro e wb1 ⟨rfl, ⟨v, oV, rV, nV⟩, fb1⟩
    replace hb0 := below_wr hb0 fb1 hpB
    rw [← HE.out] at rV
    obtain ⟨va, vc, rfl, -⟩ := rV.shape
    obtain ⟨c0, cf⟩ := own1 oV
    have HF : Hid (EncRet w x (.returned (.tuple #[.slice va x.enc.length vc, .int .i64 0])) wb1) := HZ.out _ _ HOK2.out rV nV hb0
    clear HZ rV nV oV fb1 hc2 x0 x1 x2 x3 xf l0 l1 l2 l3 l4 l5 l6 lf
    go_wp2
    go_ret2
    exact HF.out
/-- Encode, of whatever instruction. -/
theorem enc_as {w : World} {x : In} {ao : Option Addr} {cp : Nat} (hl : InLies w x ao) (n : Nat) (hn : n = x.arms.length) (hmx : n ≤ 1000000) : Calls Tryz.prog 77 #[insV x (.slice ao n cp)] w (EncRet w x) := by
  rcases lay_as x.op with ⟨h1, h2⟩ | ⟨l, wa, fa, wb, fb, h1, hka, hkb, h4⟩
  · exact enc_no_op n h1 h2
  · cases har : l.arms with
    | false => exact enc_plain hl n hn hmx l wa fa wb fb h1 hka hkb har h4
    | true => exact enc_switch hl n hn hmx l wa fa wb fb h1 hka hkb har h4
end Go.Proofs.YtkmmnocooibljaaGreatDoor
