/-
  LinearTargets, walked.
-/
import Derived.Test.YtkmmnocooibljaaGreatDoorNc
import Derived.Test.YtkmmnocooibljaaGreatDoorNe
import Derived.Test.YtkmmnocooibljaaGreatDoorLwk
namespace Go.Proofs.YtkmmnocooibljaaGreatDoor
open Go.RowKit
set_option linter.unusedVariables false

theorem setTo_nums : ∀ (ar : List (Int × Int)) (tq : List Int), (∀ y ∈ ar, (-9223372036854775808 ≤ y.1 ∧ y.1 ≤ 9223372036854775807) ∧ (-9223372036854775808 ≤ y.2 ∧ y.2 ≤ 9223372036854775807)) → (∀ t ∈ tq, N64 t) → ∀ y ∈ setTo ar tq, (-9223372036854775808 ≤ y.1 ∧ y.1 ≤ 9223372036854775807) ∧ (-9223372036854775808 ≤ y.2 ∧ y.2 ≤ 9223372036854775807)
  | [], _, _, _, y, hy => by simp [setTo] at hy
  | _ :: _, [], _, _, y, hy => by simp [setTo] at hy
  | a :: r, t :: q, h, ht, y, hy => by
    have e : setTo (a :: r) (t :: q) = (a.1, t) :: setTo r q := rfl
    rw [e] at hy
    rcases List.mem_cons.1 hy with rfl | hy
    · exact ⟨(h a (by simp)).1, ht t (by simp)⟩
    · exact setTo_nums r q (fun y hy => h y (by simp [hy])) (fun t ht2 => ht t (by simp [ht2])) y hy
theorem movX_nums {x : In} {tq : List Int} (h : ∀ y ∈ x.arms, (-9223372036854775808 ≤ y.1 ∧ y.1 ≤ 9223372036854775807) ∧ (-9223372036854775808 ≤ y.2 ∧ y.2 ≤ 9223372036854775807)) (ht : ∀ t ∈ tq, N64 t) : ∀ y ∈ (movX x tq).1.arms, (-9223372036854775808 ≤ y.1 ∧ y.1 ≤ 9223372036854775807) ∧ (-9223372036854775808 ≤ y.2 ∧ y.2 ≤ 9223372036854775807) := by
  unfold movX
  split
  · intro y hy; cases hy
  · split
    · exact h
    · split
      · exact setTo_nums x.arms tq h ht
      · exact h
theorem movX_few {x : In} {tq : List Int} : (movX x tq).1.arms.length ≤ x.arms.length := by
  unfold movX
  split
  · simp [zI]
  · split
    · exact Nat.le_refl _
    · split
      · show (setTo x.arms tq).length ≤ _
        unfold setTo
        rw [List.length_zipWith]; omega
      · exact Nat.le_refl _
def MvF (w : World) (MO MA MB : Int) (nm : Nat) (ER : Int) (AC : List Value) (e : Ending) (w' : World) : Prop := ∃ av cv, e = .returned (.tuple #[.agg #[.int .u8 MO, .int .i64 MA, .int .i64 MB, .slice av nm cv], .int .i64 ER]) ∧ Rw w' 51 2 (.slice av nm cv) nm AC ∧ (∀ b, (Value.slice av nm cv).ownBlock = some b → w.heap.size ≤ b) ∧ Below w.heap.size w w'
theorem mv_f {w : World} {r : In × Nat} {e : Ending} {w' : World} (h : MvR w r e w') : MvF w (r.1.op : Int) r.1.a r.1.b r.1.arms.length (r.2 : Int) (armC r.1.arms) e w' := by
  obtain ⟨v, he, hr, hn, hb⟩ := h
  obtain ⟨a, c, rfl, -⟩ := hr.shape
  exact ⟨a, c, he, hr, hn, hb⟩
def TgF (w : World) (L : Nat) (Z : List Value) (e : Ending) (w' : World) : Prop := ∃ a c, e = .returned (.slice a L c) ∧ Rw w' 2 1 (.slice a L c) L Z ∧ (∀ b, (Value.slice a L c).ownBlock = some b → w.heap.size ≤ b) ∧ Below w.heap.size w w'
theorem tg_f {w : World} {l : List Int} {e : Ending} {w' : World} (h : TgR w l e w') : TgF w l.length (iV l) e w' := by
  obtain ⟨v, he, hl, hb⟩ := h
  obtain ⟨a, c, rfl⟩ := hl.shape
  exact ⟨a, c, he, hl.row, hl.new, hb⟩
/-- What stands while the law runs. -/
structure TgS (W w : World) (X Y : Array Value) (gY g n c : Nat) (ar : List (Int × Int)) : Prop where
  ox : Own w W.heap.size X 43
  oy : Own w gY Y 43
  lent : LentR w g n c ar
  bel : Below W.heap.size W w
theorem TgS.below {W w w' : World} {X Y : Array Value} {gY g n c : Nat} {ar : List (Int × Int)} (h : TgS W w X Y gY g n c ar) (hb : Below w.heap.size w w') : TgS W w' X Y gY g n c ar :=
  ⟨h.ox.below hb, h.oy.below hb, h.lent.below hb, h.bel.trans (hb.mono h.bel.size)⟩
theorem TgS.grown {W w w' : World} {X Y : Array Value} {gY g n c : Nat} {ar : List (Int × Int)} (h : TgS W w X Y gY g n c ar) {e : TypeId} {sz m : Nat} {v : Value} {zs : List Value} (hr : Rw w e sz v m zs) (he : e ≠ 43) (ha : ∀ k, v.ownBlock = some k → k ≠ g) (hg : w.grownBy w' v.ownBlock) (hn : ∀ b, v.ownBlock = some b → W.heap.size ≤ b) : TgS W w' X Y gY g n c ar :=
  ⟨h.ox.grown hg (fun e2 => hr.ne h.ox he e2.symm), h.oy.grown hg (fun e2 => hr.ne h.oy he e2.symm), Rw.grown h.lent hg (fun k e2 q => ha k q.symm (by simpa [Value.ownBlock] using e2.symm)), h.bel.grown hg h.bel.size hn⟩
theorem tgs_len {x : In} : (tgs x).length ≤ x.arms.length + 1 := by
  unfold tgs
  split
  · simp
  · split
    · simp
    · simp
set_option maxHeartbeats 16000000 in
set_option maxRecDepth 100000 in
theorem targets_walk (W : World) (x : In) (ao : Option Addr) (cp : Nat) (hx : InAt W x ao cp) (ta : Option Addr) (tc : Nat) (tq : List Int) (ht : RowAt W ta 1 tq.length (inF tq)) (ht64 : ∀ t ∈ tq, N64 t) (aa ba : Option Addr) (ca cb : Nat) (xs ys : List LnP) (hxs : LnsIn W aa xs) (hys : LnsIn W ba ys) (hN : NmAt W) :
    Calls Tryz.prog 5 #[insV x (.slice ao x.arms.length cp), .slice ta tq.length tc, .slice aa xs.length ca, .slice ba ys.length cb] W fun e w' => e = .returned (.bool true) ∧ Below W.heap.size W w' := by
  obtain ⟨n, hn⟩ : ∃ n, x.arms.length = n := ⟨_, rfl⟩
  obtain ⟨m, hm⟩ : ∃ m, tq.length = m := ⟨_, rfl⟩
  have oX := Own.new W #[.int .u8 (x.op : Int), .int .i64 x.a, .int .i64 x.b, .slice ao n cp] 43
  have hb1 := new_below W (.cells #[.int .u8 (x.op : Int), .int .i64 x.a, .int .i64 x.b, .slice ao n cp] 43)
  have HWORKS : Hid (∀ w, Below W.heap.size W w → Calls Tryz.prog 22 #[] w fun e w' => e = .returned (.bool true) ∧ Below w.heap.size w w') := fun w h => lworks_any (hN.below hN.lt h)
  have HFA : Hid (∀ w, Below W.heap.size W w → Calls Tryz.prog 9 #[.slice aa xs.length ca] w fun e w' => ∃ b : Bool, e = .returned (.bool b) ∧ Below w.heap.size w w') := fun w h => few_as rfl (hxs.below h)
  have HFB : Hid (∀ w, Below W.heap.size W w → Calls Tryz.prog 9 #[.slice ba ys.length cb] w fun e w' => ∃ b : Bool, e = .returned (.bool b) ∧ Below w.heap.size w w') := fun w h => few_as rfl (hys.below h)
  have HLENT : Hid (n ≤ 300 → ∀ w, Below W.heap.size W w → Calls Tryz.prog 27 #[.agg #[.int .u8 (x.op : Int), .int .i64 x.a, .int .i64 x.b, .slice ao n cp]] w fun e w' => ∃ g c, e = .returned (.agg #[.int .u8 (x.op : Int), .int .i64 x.a, .int .i64 x.b, .slice (some ⟨g, 0, none⟩) n c]) ∧ LentR w' g n c x.arms ∧ w.heap.size ≤ g ∧ Below w.heap.size w w') := fun hsm w h =>
    klent_as (w := w) (x := x) (ao := ao) (cp := cp) ⟨hx.lies.below h, hx.none, hx.le, hx.max⟩ n hn.symm (by omega)
  have HY : Hid (∀ w g c, LentR w g n c x.arms → InLies w x (some ⟨g, 0, none⟩)) := fun w g c h => ⟨hx.lies.op, hx.lies.a, hx.lies.b, h.arms hn.symm hx.lies.arms.nums⟩
  have HT1 : Hid (n ≤ 300 → ∀ w g c, LentR w g n c x.arms → Calls Tryz.prog 28 #[.agg #[.int .u8 (x.op : Int), .int .i64 x.a, .int .i64 x.b, .slice (some ⟨g, 0, none⟩) n c]] w (TgF w (tgs x).length (iV (tgs x)))) := fun hsm w g c h => (lnTargets_as (cp := c) (HY.out w g c h) n hn.symm (by omega)).mono fun _ _ q => tg_f q
  have HT2 : Hid (n ≤ 300 → ∀ w, Below W.heap.size W w → Calls Tryz.prog 29 #[.agg #[.int .u8 (x.op : Int), .int .i64 x.a, .int .i64 x.b, .slice ao n cp]] w (TgF w (tgs x).length (iV (tgs x)))) := fun hsm w h => (tTargets_as (cp := cp) (hx.lies.below h) n hn.symm (by omega)).mono fun _ _ q => tg_f q
  have HM1 : Hid (n ≤ 300 → m ≤ 300 → ∀ w g c, LentR w g n c x.arms → Below W.heap.size W w → Calls Tryz.prog 30 #[.agg #[.int .u8 (x.op : Int), .int .i64 x.a, .int .i64 x.b, .slice (some ⟨g, 0, none⟩) n c], .slice ta m tc] w (MvF w ((movX x tq).1.op : Int) (movX x tq).1.a (movX x tq).1.b (movX x tq).1.arms.length ((movX x tq).2 : Int) (armC (movX x tq).1.arms))) := fun hsm hsm2 w g c h q =>
    (lnMoved_as (cp := c) (HY.out w g c h) n hn.symm (fun e => by cases e) (by omega) (ht.below q) hm.symm (by omega)).mono fun _ _ q => mv_f q
  have HM2 : Hid (n ≤ 300 → m ≤ 300 → ∀ w, Below W.heap.size W w → Calls Tryz.prog 31 #[.agg #[.int .u8 (x.op : Int), .int .i64 x.a, .int .i64 x.b, .slice ao n cp], .slice ta m tc] w (MvF w ((movX x tq).1.op : Int) (movX x tq).1.a (movX x tq).1.b (movX x tq).1.arms.length ((movX x tq).2 : Int) (armC (movX x tq).1.arms))) := fun hsm hsm2 w q =>
    (tMoved_as (cp := cp) (hx.lies.below q) n hn.symm hx.none (by omega) (ht.below q) hm.symm (by omega)).mono fun _ _ q => mv_f q
  have HM3 : Hid (n ≤ 300 → ∀ (w : World) (g c : Nat) (a2 : Option Addr) (c2 : Nat), LentR w g n c x.arms → Rw w 2 1 (.slice a2 (tgs x).length c2) (tgs x).length (iV (tgs x)) → Calls Tryz.prog 30 #[.agg #[.int .u8 (x.op : Int), .int .i64 x.a, .int .i64 x.b, .slice (some ⟨g, 0, none⟩) n c], .slice a2 (tgs x).length c2] w (MvF w (x.op : Int) x.a x.b n 0 (armC x.arms))) := fun hsm w g c a2 c2 h q => by
    have hC := lnMoved_as (cp := c) (tc := c2) (tq := tgs x) (HY.out w g c h) n hn.symm (fun e => by cases e) (by omega) (rw_rowAt q (Nat.le_refl _) (fun i hi d hd => intV_get (tgs x) i hi d hd)) rfl (by have := tgs_len (x := x); omega)
    rw [movX_self] at hC
    refine hC.mono fun _ _ q => ?_
    have := mv_f q
    rw [← hn]
    exact this
  have HS1 : Hid (n ≤ 300 → ∀ (w : World) (a c : Option Addr) (b d : Nat), Rw w 51 2 (.slice a (movX x tq).1.arms.length b) (movX x tq).1.arms.length (armC (movX x tq).1.arms) → Rw w 51 2 (.slice c (movX x tq).1.arms.length d) (movX x tq).1.arms.length (armC (movX x tq).1.arms) → Calls Tryz.prog 32 #[.agg #[.int .u8 ((movX x tq).1.op : Int), .int .i64 (movX x tq).1.a, .int .i64 (movX x tq).1.b, .slice a (movX x tq).1.arms.length b], .agg #[.int .u8 ((movX x tq).1.op : Int), .int .i64 (movX x tq).1.a, .int .i64 (movX x tq).1.b, .slice c (movX x tq).1.arms.length d]] w fun e w' => e = .returned (.bool true) ∧ Below w.heap.size w w') := fun hsm w a c b d h h' => by
    obtain ⟨_, _, e1, l1⟩ := rw_armLies h (movX_nums hx.lies.arms.nums ht64)
    obtain ⟨_, _, e2, l2⟩ := rw_armLies h' (movX_nums hx.lies.arms.nums ht64)
    cases e1; cases e2
    exact sameIns_eq (x := (movX x tq).1) rfl l1 l2 (by have := movX_few (x := x) (tq := tq); omega)
  have HS2 : Hid (n ≤ 300 → ∀ (w : World) (a : Option Addr) (b : Nat), Below W.heap.size W w → Rw w 51 2 (.slice a n b) n (armC x.arms) → Calls Tryz.prog 32 #[.agg #[.int .u8 (x.op : Int), .int .i64 x.a, .int .i64 x.b, .slice a n b], .agg #[.int .u8 (x.op : Int), .int .i64 x.a, .int .i64 x.b, .slice ao n cp]] w fun e w' => e = .returned (.bool true) ∧ Below w.heap.size w w') := fun hsm w a b q h => by
    rw [← hn] at h ⊢
    obtain ⟨_, _, e1, l1⟩ := rw_armLies h hx.lies.arms.nums
    cases e1
    exact sameIns_eq (x := x) rfl l1 (hx.lies.arms.below q) (by omega)
  have HKI : Hid (n ≤ 300 → ∀ w g c, Below W.heap.size W w → LentR w g n c x.arms → Calls Tryz.prog 33 #[.agg #[.int .u8 (x.op : Int), .int .i64 x.a, .int .i64 x.b, .slice (some ⟨g, 0, none⟩) n c], .agg #[.int .u8 (x.op : Int), .int .i64 x.a, .int .i64 x.b, .slice ao n cp]] w fun e w' => e = .returned (.bool true) ∧ Below w.heap.size w w') := fun hsm w g c h q => kkept_as (cp := cp) (hx.lies.below h) n hn.symm (by omega) g c q
  obtain ⟨t, htt⟩ := some_bool (xs.map LnP.l = ys.map LnP.l)
  have HAB : Hid (∀ w, Below W.heap.size W w → Calls Tryz.prog 34 #[.slice aa xs.length ca, .slice ba ys.length cb] w fun e w' => e = .returned (.bool t) ∧ Below w.heap.size w w') := fun w h => lnSame_as rfl rfl (hxs.below h) (hys.below h) t htt
  have HSL : Hid (∀ w, Below W.heap.size W w → Calls Tryz.prog 19 #[.slice aa xs.length ca, .slice ba ys.length cb] w fun e w' => e = .returned (.bool t) ∧ Below w.heap.size w w') := fun w h => kSameLines_as rfl rfl (hxs.below h) (hys.below h) t htt
  have HAA : Hid (∀ w, Below W.heap.size W w → Calls Tryz.prog 34 #[.slice aa xs.length ca, .slice aa xs.length ca] w fun e w' => e = .returned (.bool true) ∧ Below w.heap.size w w') := fun w h => lnSame_as rfl rfl (hxs.below h) (hxs.below h) true (by simp)
  have HZ : Hid (∀ i, i < (tgs x).length → ∃ V : Int, (iV (tgs x))[i]? = some (.int .i64 V)) := fun i hi => ⟨(tgs x)[i]'hi, by simp [iV, hi]⟩
  have HLB : Hid (n ≤ 300 → (tgs x).length ≤ 301 ∧ (movX x tq).1.arms.length ≤ 300) := fun hsm => ⟨by have := tgs_len (x := x); omega, by have := movX_few (x := x) (tq := tq); omega⟩
  rw [hn, hm]
  clear HY hx ht ht64 hxs hys hN hn hm htt
  generalize xs.length = na at *
  generalize ys.length = nb at *
  generalize (tgs x).length = L at *
  generalize iV (tgs x) = Z at *
  generalize ((movX x tq).1.op : Int) = MO at *
  generalize (movX x tq).1.a = MA at *
  generalize (movX x tq).1.b = MB at *
  generalize (movX x tq).1.arms.length = nm at *
  generalize armC (movX x tq).1.arms = AC at *
  generalize ((movX x tq).2 : Int) = ER at *
  unfold insV
  generalize (x.op : Int) = N at *
  generalize x.a = XA at *
  generalize x.b = XB at *
  generalize x.arms = ar at *
  go_enter Tryz.func5, Tryz.ntmps5
  go_upto_region 1 with fail
  generalize W.alloc (.cells #[.int .u8 N, .int .i64 XA, .int .i64 XB, .slice ao n cp] 43) = w1 at *
  obtain ⟨x0, x1, x2, x3, xf⟩ := own4 oX
  by_cases h1 : (300 : Int) < (n : Int)
  · clear HWORKS HFA HFB HLENT HT1 HT2 HM1 HM2 HM3 HS1 HS2 HKI HAB HSL HAA HZ HLB
    go_wp2
    go_ret
    exact ⟨rfl, hb1⟩
  · have h1i : (n : Int) ≤ 300 := by omega
    have HSM : Hid (n ≤ 300) := by
      have : n ≤ 300 := by omega
      exact this
    by_cases h2 : (300 : Int) < (m : Int)
    · clear HWORKS HFA HFB HLENT HT1 HT2 HM1 HM2 HM3 HS1 HS2 HKI HAB HSL HAA HZ HLB
      go_wp2
      go_ret
      exact ⟨rfl, hb1⟩
    · have h2i : (m : Int) ≤ 300 := by omega
      have HSM2 : Hid (m ≤ 300) := by
        have : m ≤ 300 := by omega
        exact this
      replace HLENT := HLENT.out HSM.out
      replace HT1 := HT1.out HSM.out
      replace HT2 := HT2.out HSM.out
      replace HM1 := HM1.out HSM.out HSM2.out
      replace HM2 := HM2.out HSM.out HSM2.out
      replace HM3 := HM3.out HSM.out
      replace HS1 := HS1.out HSM.out
      replace HS2 := HS2.out HSM.out
      replace HKI := HKI.out HSM.out
      replace HLB := HLB.out HSM.out
      have HLB2 : Hid (L ≤ 301 ∧ nm ≤ 300) := HLB
      clear HLB
      go_wp2_with fail
      refine Calls.mono (HFA.out w1 hb1) ?_
      rintro e w2 ⟨fa, rfl, b2⟩
      replace hb1 := hb1.trans (b2.mono hb1.size)
      replace oX := oX.below b2
      clear x0 x1 x2 x3 xf b2 HFA
      obtain ⟨x0, x1, x2, x3, xf⟩ := own4 oX
      cases fa with
      | false =>
        clear HWORKS HFB HLENT HT1 HT2 HM1 HM2 HM3 HS1 HS2 HKI HAB HSL HAA HZ
        go_wp2
        go_ret
        exact ⟨rfl, hb1⟩
      | true =>
      go_wp2_with fail
      refine Calls.mono (HFB.out w2 hb1) ?_
      rintro e w3 ⟨fb, rfl, b3⟩
      replace hb1 := hb1.trans (b3.mono hb1.size)
      replace oX := oX.below b3
      clear x0 x1 x2 x3 xf b3 HFB
      obtain ⟨x0, x1, x2, x3, xf⟩ := own4 oX
      cases fb with
      | false =>
        clear HWORKS HLENT HT1 HT2 HM1 HM2 HM3 HS1 HS2 HKI HAB HSL HAA HZ
        go_wp2
        go_ret
        exact ⟨rfl, hb1⟩
      | true =>
      go_wp2_with fail
      refine Calls.mono (HLENT w3 hb1) ?_
      rintro e w4 ⟨g, c, rfl, hlent, -, b4⟩
      have S5 : TgS W (w4.alloc (.cells #[.int .u8 N, .int .i64 XA, .int .i64 XB, .slice (some ⟨g, 0, none⟩) n c] 43)) #[.int .u8 N, .int .i64 XA, .int .i64 XB, .slice ao n cp] #[.int .u8 N, .int .i64 XA, .int .i64 XB, .slice (some ⟨g, 0, none⟩) n c] w4.heap.size g n c ar :=
        ⟨(oX.below b4).alloc _, Own.new w4 _ _, Rw.alloc hlent _, (hb1.trans (b4.mono hb1.size)).alloc (Nat.le_trans hb1.size b4.size) _⟩
      clear x0 x1 x2 x3 xf hlent b4 oX hb1 HLENT
      go_upto_region 4 with fail
      generalize w4.alloc (.cells #[.int .u8 N, .int .i64 XA, .int .i64 XB, .slice (some ⟨g, 0, none⟩) n c] 43) = w5 at *
      generalize w4.heap.size = gY at *
      obtain ⟨y0, y1, y2, y3, yf⟩ := own4 S5.oy
      go_wp2_with fail
      refine Calls.mono (HT1 w5 g c S5.lent) ?_
      rintro e w6 ⟨a1, c1, rfl, r1, new1, b6⟩
      have lt6 : ∀ b, (Value.slice a1 L c1).ownBlock = some b → b < w6.heap.size := fun b q => r1.lt q
      have newW : ∀ b, (Value.slice a1 L c1).ownBlock = some b → W.heap.size ≤ b := fun b q => Nat.le_trans S5.bel.size (new1 b q)
      replace S5 := S5.below b6
      clear y0 y1 y2 y3 yf b6 new1 HT1
      obtain ⟨x0, x1, x2, x3, xf⟩ := own4 S5.ox
      go_wp2_with fail
      refine Calls.mono (HT2 w6 S5.bel) ?_
      rintro e w7 ⟨a2, c2, rfl, r2, new2, b7⟩
      have apart : ∀ k, (Value.slice a2 L c2).ownBlock = some k → some k ≠ (Value.slice a1 L c1).ownBlock := fun k e q => by have := lt6 k q.symm; have := new2 k e; omega
      replace S5 := S5.below b7
      replace r1 := r1.belowR b7
      clear x0 x1 x2 x3 xf b7 new2 lt6 HT2
      obtain ⟨y0, y1, y2, y3, yf⟩ := own4 S5.oy
      go_wp2_with fail
      refine Calls.mono (HM1 w7 g c S5.lent S5.bel) ?_
      rintro e w8 ⟨av, cv, rfl, rm, newm, b8⟩
      have apm : ∀ k, (Value.slice av nm cv).ownBlock = some k → k ≠ g := fun k e q => by
        have h8 := newm k e
        have := Rw.lt S5.lent (k := g) rfl
        omega
      have newM : ∀ b, (Value.slice av nm cv).ownBlock = some b → W.heap.size ≤ b := fun b q => Nat.le_trans S5.bel.size (newm b q)
      replace S5 := S5.below b8
      replace r1 := r1.belowR b8
      replace r2 := r2.belowR b8
      have oM := Own.new w8 #[.int .u8 MO, .int .i64 MA, .int .i64 MB, .slice av nm cv] 43
      have b9 := new_below w8 (.cells #[.int .u8 MO, .int .i64 MA, .int .i64 MB, .slice av nm cv] 43)
      replace S5 := S5.below b9
      replace r1 := r1.belowR b9
      replace r2 := r2.belowR b9
      replace rm := rm.belowR b9
      clear y0 y1 y2 y3 yf b8 b9 newm HM1
      go_upto_region 7 with fail
      generalize w8.alloc (.cells #[.int .u8 MO, .int .i64 MA, .int .i64 MB, .slice av nm cv] 43) = w9 at *
      generalize w8.heap.size = gM at *
      obtain ⟨x0, x1, x2, x3, xf⟩ := own4 S5.ox
      go_wp2_with fail
      refine Calls.mono (HM2 w9 S5.bel) ?_
      rintro e w10 ⟨au, cu, rfl, ru, -, b10⟩
      have oU := Own.new w10 #[.int .u8 MO, .int .i64 MA, .int .i64 MB, .slice au nm cu] 43
      have b11 := b10.trans ((new_below w10 (.cells #[.int .u8 MO, .int .i64 MA, .int .i64 MB, .slice au nm cu] 43)).mono b10.size)
      replace ru := ru.belowR (new_below w10 (.cells #[.int .u8 MO, .int .i64 MA, .int .i64 MB, .slice au nm cu] 43))
      replace S5 := S5.below b11
      replace r1 := r1.belowR b11
      replace r2 := r2.belowR b11
      replace rm := rm.belowR b11
      replace oM := oM.below b11
      clear x0 x1 x2 x3 xf b10 b11 HM2
      go_upto_region 8 with fail
      generalize w10.alloc (.cells #[.int .u8 MO, .int .i64 MA, .int .i64 MB, .slice au nm cu] 43) = w11 at *
      generalize w10.heap.size = gU at *
      obtain ⟨y0, y1, y2, y3, yf⟩ := own4 S5.oy
      go_wp2_with fail
      refine Calls.mono (HM3 w11 g c a2 c2 S5.lent r2) ?_
      rintro e w12 ⟨an, cn, rfl, rn, -, b12⟩
      have oN := Own.new w12 #[.int .u8 N, .int .i64 XA, .int .i64 XB, .slice an n cn] 43
      have b13 := b12.trans ((new_below w12 (.cells #[.int .u8 N, .int .i64 XA, .int .i64 XB, .slice an n cn] 43)).mono b12.size)
      replace rn := rn.belowR (new_below w12 (.cells #[.int .u8 N, .int .i64 XA, .int .i64 XB, .slice an n cn] 43))
      replace S5 := S5.below b13
      replace r1 := r1.belowR b13
      replace r2 := r2.belowR b13
      replace rm := rm.belowR b13
      replace ru := ru.belowR b13
      replace oM := oM.below b13
      replace oU := oU.below b13
      clear y0 y1 y2 y3 yf b12 b13 HM3
      go_upto_region 9 with fail
      generalize w12.alloc (.cells #[.int .u8 N, .int .i64 XA, .int .i64 XB, .slice an n cn] 43) = w13 at *
      generalize w12.heap.size = gN at *
      obtain ⟨m0, m1, m2, m3, mf⟩ := own4 oM
      obtain ⟨u0, u1, u2, u3, uf⟩ := own4 oU
      go_wp2_with fail
      refine Calls.mono (HS1 w13 av au cv cu rm ru) ?_
      rintro e w14 ⟨rfl, b14⟩
      replace S5 := S5.below b14
      replace r1 := r1.belowR b14
      replace r2 := r2.belowR b14
      replace rm := rm.belowR b14
      replace rn := rn.belowR b14
      replace oM := oM.below b14
      replace oN := oN.below b14
      clear m0 m1 m2 m3 mf u0 u1 u2 u3 uf b14 HS1 ru oU
      obtain ⟨n0, n1, n2, n3, nf⟩ := own4 oN
      obtain ⟨x0, x1, x2, x3, xf⟩ := own4 S5.ox
      go_wp2_with fail
      refine Calls.mono (HS2 w14 an cn S5.bel rn) ?_
      rintro e w15 ⟨rfl, b15⟩
      replace S5 := S5.below b15
      replace r1 := r1.belowR b15
      replace r2 := r2.belowR b15
      replace rm := rm.belowR b15
      replace oM := oM.below b15
      clear n0 n1 n2 n3 nf x0 x1 x2 x3 xf b15 HS2 rn oN
      have HS5 : Hid (TgS W w15 #[.int .u8 N, .int .i64 XA, .int .i64 XB, .slice ao n cp] #[.int .u8 N, .int .i64 XA, .int .i64 XB, .slice (some ⟨g, 0, none⟩) n c] gY g n c ar) := S5
      have HR1 : Hid (Rw w15 2 1 (.slice a1 L c1) L Z) := r1
      have HR2 : Hid (Rw w15 2 1 (.slice a2 L c2) L Z) := r2
      have HRM : Hid (Rw w15 51 2 (.slice av nm cv) nm AC) := rm
      have HOM : Hid (Own w15 gM #[.int .u8 MO, .int .i64 MA, .int .i64 MB, .slice av nm cv] 43) := oM
      have HAP : Hid (∀ k, (Value.slice a2 L c2).ownBlock = some k → some k ≠ (Value.slice a1 L c1).ownBlock) := apart
      have HAPM : Hid (∀ k, (Value.slice av nm cv).ownBlock = some k → k ≠ g) := apm
      have HNW : Hid ((∀ b, (Value.slice a1 L c1).ownBlock = some b → W.heap.size ≤ b) ∧ (∀ b, (Value.slice av nm cv).ownBlock = some b → W.heap.size ≤ b)) := ⟨newW, newM⟩
      have REL : Hid (w15.grownBy w15 (Value.slice a1 L c1).ownBlock ∧ ∃ zs, Rw w15 2 1 (.slice a1 L c1) L zs ∧ ∀ i, 0 ≤ i → zs[i]? = Z[i]?) := ⟨World.grownBy.refl _ _, _, r1, fun i _ => rfl⟩
      clear S5 r1 r2 rm oM apart apm newW newM
      go_wp2_with fail
      go_loopw [18] (fun i wr => ∃ k : Nat, k ≤ L ∧ i = .int .i64 (k : Int) ∧ w15.grownBy wr (Value.slice a1 L c1).ownBlock ∧ ∃ zs, Rw wr 2 1 (.slice a1 L c1) L zs ∧ ∀ i, k ≤ i → zs[i]? = Z[i]?) (fun i _ => L - (intOf i).toNat)
      case atStart => exact ⟨0, Nat.zero_le _, rfl, REL.out⟩
      case round =>
        clear REL
        obtain ⟨k, hk, rfl, hg, zs, hR, hz⟩ := hrel
        by_cases hlt : k < L
        · have hW := HR2.out.grown hg HAP.out
          obtain ⟨V, hV⟩ := HZ.out k hlt
          obtain ⟨gt, capt, curt, e, -⟩ := hR.block (by omega)
          cases e
          obtain ⟨gw, capw, curw, e, -⟩ := hW.block (by omega)
          cases e
          have hR2 : wr.ownsRow 0 2 1 (.slice (some ⟨gt, 0, none⟩) L c1) L zs := hR
          have d0 : wr.cell? ⟨gt, k, none⟩ = some (.int .i64 V) := Rw.cells hR k _ (by rw [hz k (Nat.le_refl _)]; exact hV)
          have d1 : wr.cell? ⟨gw, k, none⟩ = some (.int .i64 V) := Rw.cells hW k _ hV
          have hf := hR2.frozenAt k
          have RES : Hid (∀ q, w15.grownBy ((wr.drewN q).setCell ⟨gt, k, none⟩ (.int .i64 (-7))) (Value.slice (some ⟨gt, 0, none⟩) L c1).ownBlock ∧ ∃ zs, Rw ((wr.drewN q).setCell ⟨gt, k, none⟩ (.int .i64 (-7))) 2 1 (.slice (some ⟨gt, 0, none⟩) L c1) L zs ∧ ∀ i, k + 1 ≤ i → zs[i]? = Z[i]?) := fun q => by
            have hRq : (wr.drewN q).ownsRow 0 2 1 (.slice (some ⟨gt, 0, none⟩) L c1) L zs := hR2
            have hgq : w15.grownBy (wr.drewN q) (Value.slice (some ⟨gt, 0, none⟩) L c1).ownBlock := ⟨hg.os, hg.tape, hg.output, hg.size, hg.block⟩
            exact ⟨hgq.trans (hRq.stored k _).2, _, (hRq.stored k _).1, fun i hi => by rw [List.getElem?_set_ne (by omega)]; exact hz i (by omega)⟩
          have hlt2 : (k : Int) < (L : Int) := by omega
          have hk0 : (0 : Int) ≤ (k : Int) := by omega
          have hLs : L ≤ 301 := HLB2.out.1
          clear hR hR2 hg hW hz hV HR1 HR2 HRM HOM HAP HAPM HNW HZ HS5
          go_wp2_with fail
          go_quiet (fail)
          go_wp2
          go_roundw
          case rel =>
            exact ⟨k + 1, hlt, by go_num, RES.out _⟩
          case measure => simp [intOf]; omega
        · obtain rfl : k = L := by omega
          have S := HS5.out.grown HR1.out (by decide) (fun j e q => by
            have := HR1.out.ne2 HS5.out.lent (by decide) j e
            subst q
            exact this rfl) hg HNW.out.1
          have rm := HRM.out.grown hg (fun j e q => HR1.out.ne2 HRM.out (by decide) j q.symm e)
          have oM := HOM.out.grown hg (fun e => HR1.out.ne HOM.out (by decide) e.symm)
          clear HS5 HR1 HR2 HRM HOM HAP HZ hR hz hg
          have HS : Hid (TgS W wr #[.int .u8 N, .int .i64 XA, .int .i64 XB, .slice ao n cp] #[.int .u8 N, .int .i64 XA, .int .i64 XB, .slice (some ⟨g, 0, none⟩) n c] gY g n c ar) := S
          have HRM : Hid (Rw wr 51 2 (.slice av nm cv) nm AC) := rm
          have HOM : Hid (Own wr gM #[.int .u8 MO, .int .i64 MA, .int .i64 MB, .slice av nm cv] 43) := oM
          have REL : Hid (wr.grownBy wr (Value.slice av nm cv).ownBlock ∧ ∃ zs, Rw wr 51 2 (.slice av nm cv) nm zs) := ⟨World.grownBy.refl _ _, _, rm⟩
          obtain ⟨m0, m1, m2, m3, mf⟩ := own4 oM
          clear S rm oM
          generalize wr = ws at *
          go_wp2_with fail
          go_loopw [19] (fun i wr => ∃ k : Nat, k ≤ nm ∧ i = .int .i64 (k : Int) ∧ ws.grownBy wr (Value.slice av nm cv).ownBlock ∧ ∃ zs, Rw wr 51 2 (.slice av nm cv) nm zs) (fun i _ => nm - (intOf i).toNat)
          case atStart => exact ⟨0, Nat.zero_le _, rfl, REL.out⟩
          case round =>
            clear REL m0 m1 m2 m3 mf
            obtain ⟨j, hj, rfl, hg, zs, hR⟩ := hrel
            obtain ⟨m0, m1, m2, m3, mf⟩ := own4 (HOM.out.grown hg (fun e => HRM.out.ne HOM.out (by decide) e.symm))
            by_cases hlt : j < nm
            · obtain ⟨gt, capt, curt, e, -⟩ := hR.block (by omega)
              cases e
              have hR2 : wr.ownsRow 0 51 2 (.slice (some ⟨gt, 0, none⟩) nm cv) nm zs := hR
              have hcu : ∃ u, wr.cell? ⟨gt, j * 2, none⟩ = some u := by
                rw [hR2.cellAt (j * 2) (by omega)]
                have : j * 2 < zs.length := by rw [hR2.1]; omega
                exact ⟨_, List.getElem?_eq_getElem this⟩
              obtain ⟨u, hcu⟩ := hcu
              have hf := hR2.frozenAt (j * 2)
              have st := hR2.stored (j * 2) (.int .i64 (-9))
              have RES : Hid (ws.grownBy (wr.setCell ⟨gt, j * 2, none⟩ (.int .i64 (-9))) (Value.slice (some ⟨gt, 0, none⟩) nm cv).ownBlock ∧ ∃ zs, Rw (wr.setCell ⟨gt, j * 2, none⟩ (.int .i64 (-9))) 51 2 (.slice (some ⟨gt, 0, none⟩) nm cv) nm zs) :=
                ⟨hg.trans st.2, _, st.1⟩
              have hlt2 : (j : Int) < (nm : Int) := by omega
              have hj0 : (0 : Int) ≤ (j : Int) := by omega
              have hLs : nm ≤ 300 := HLB2.out.2
              clear st hR hR2 hg HRM HOM HAPM HNW HS
              go_wp2
              go_roundw
              case rel => exact ⟨j + 1, hlt, by go_num, RES.out⟩
              case measure => simp [intOf]; omega
            · obtain rfl : j = nm := by omega
              have S := HS.out.grown HRM.out (by decide) HAPM.out hg HNW.out.2
              clear HS HRM HOM HAPM HNW hR hg
              obtain ⟨x0, x1, x2, x3, xf⟩ := own4 S.ox
              obtain ⟨y0, y1, y2, y3, yf⟩ := own4 S.oy
              go_wp2_with fail
              refine Calls.mono (HKI wr g c S.bel S.lent) ?_
              rintro e v1 ⟨rfl, b⟩
              replace S := S.below b
              clear x0 x1 x2 x3 xf y0 y1 y2 y3 yf b HKI m0 m1 m2 m3 mf
              go_wp2_with fail
              refine Calls.mono (HAB.out v1 S.bel) ?_
              rintro e v2 ⟨rfl, b⟩
              replace S := S.below b
              clear b HAB
              go_wp2_with fail
              refine Calls.mono (HSL.out v2 S.bel) ?_
              rintro e v3 ⟨rfl, b⟩
              replace S := S.below b
              clear b HSL
              have htt : (t == t) = true := by cases t <;> rfl
              go_wp2_with fail
              refine Calls.mono (HAA.out v3 S.bel) ?_
              rintro e v4 ⟨rfl, b⟩
              replace S := S.below b
              clear b HAA
              go_wp2_with fail
              refine Calls.mono (HWORKS.out v4 S.bel) ?_
              rintro e v5 ⟨rfl, b⟩
              replace S := (S.below b).bel
              go_wp2
              go_ret
              exact ⟨rfl, S⟩
end Go.Proofs.YtkmmnocooibljaaGreatDoor
