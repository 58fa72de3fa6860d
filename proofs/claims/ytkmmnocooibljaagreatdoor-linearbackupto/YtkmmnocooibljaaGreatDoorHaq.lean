/-
  Ha, what is reached of it.
-/
import Derived.Test.YtkmmnocooibljaaGreatDoorLz
import Derived.Test.YtkmmnocooibljaaGreatDoorWrq
namespace Go.Proofs.YtkmmnocooibljaaGreatDoor
open Go.ChangeShapes Go.WideShapes Go.ChangeAt Go.RowKit Go.Deep
set_option linter.unusedVariables false

abbrev layC (l : Lay) (wa : Int) (fa : Nat) (wb : Int) (fb : Nat) : Array Value := #[.int .i64 l.a.sz, .int .u8 wa, .func (.func fa) #[] #[], .int .i64 l.b.sz, .int .u8 wb, .func (.func fb) #[] #[], .bool l.arms]
set_option maxHeartbeats 1000000 in
theorem lsize_as (l : Lay) (wa : Int) (fa : Nat) (wb : Int) (fb : Nat) (ha : l.a.sz ≤ 8) (hb : l.b.sz ≤ 8) (n : Nat) (hn : n ≤ 1000000) (w : World) :
    Calls Tryz.prog 64 #[layV l wa fa wb fb, .int .i64 (n : Int)] w fun e w' => e = .returned (.int .i64 (l.size n : Int)) ∧ Below w.heap.size w w' := by
  have oL := Own.new w (layC l wa fa wb fb) 100
  have hb0 := new_below w (.cells (layC l wa fa wb fb) 100)
  have HS : Hid ((l.size n : Int) = 1 + (l.a.sz : Int) + (l.b.sz : Int) + if l.arms = true then 2 + (n : Int) * 12 else 0) := by
    unfold Hid Lay.size
    split <;> simp
  obtain ⟨S, HS2⟩ : ∃ S : Int, Hid ((l.size n : Int) = S) := ⟨_, rfl⟩
  rw [HS2.out] at HS ⊢
  clear HS2
  obtain ⟨za, hza⟩ : ∃ za : Int, (l.a.sz : Int) = za := ⟨_, rfl⟩
  obtain ⟨zb, hzb⟩ : ∃ zb : Int, (l.b.sz : Int) = zb := ⟨_, rfl⟩
  have b1 : 0 ≤ za ∧ za ≤ 8 := by omega
  have b2 : 0 ≤ zb ∧ zb ≤ 8 := by omega
  unfold layC at oL hb0
  unfold layV
  rw [hza, hzb] at oL hb0 HS ⊢
  clear hza hzb ha hb
  cases har : l.arms with
  | false =>
    rw [har] at oL hb0 HS
    go_enter Tryz.func64, Tryz.ntmps64
    go_upto_region 1 with fail
    generalize w.alloc (.cells #[.int .i64 za, .int .u8 wa, .func (.func fa) #[] #[], .int .i64 zb, .int .u8 wb, .func (.func fb) #[] #[], .bool false] 100) = w1 at *
    obtain ⟨l0, l1, l2, l3, l4, l5, l6, lf⟩ := own7 oL
    go_wp2
    go_ret
    refine ⟨ret_int ?_, hb0⟩
    rw [HS.out]; simp
  | true =>
    rw [har] at oL hb0 HS
    go_enter Tryz.func64, Tryz.ntmps64
    go_upto_region 1 with fail
    generalize w.alloc (.cells #[.int .i64 za, .int .u8 wa, .func (.func fa) #[] #[], .int .i64 zb, .int .u8 wb, .func (.func fb) #[] #[], .bool true] 100) = w1 at *
    obtain ⟨l0, l1, l2, l3, l4, l5, l6, lf⟩ := own7 oL
    go_wp2_with fail
    refine (short_any _).mono ?_
    rintro e w2 ⟨rfl, c2⟩
    replace hb0 := hb0.trans (c2.mono hb0.size)
    clear c2
    go_wp2_with fail
    refine (value3 _).mono ?_
    rintro e w3 ⟨rfl, c3⟩
    replace hb0 := hb0.trans (c3.mono hb0.size)
    clear c3
    go_wp2_with fail
    refine (place_any _).mono ?_
    rintro e w4 ⟨rfl, c4⟩
    replace hb0 := hb0.trans (c4.mono hb0.size)
    clear c4
    go_wp2
    go_ret
    refine ⟨ret_int ?_, hb0⟩
    rw [HS.out]; simp; try omega
/-- The arms of an instruction: is each in bounds? -/
def armOk (x : Int) (y : Int × Int) : Bool := (nVal x).may y.1 && nPlace.may y.2
structure HaRel (w : World) (ao : Option Addr) (ar : List (Int × Int)) (x : Int) (g1 g2 f1 : Nat) (i : Value) (wr : World) : Prop where
  ex : ∃ k : Nat, k ≤ ar.length ∧ i = .int .i64 (k : Int) ∧ (ar.take k).all (armOk x) = true
  o1 : Own wr g1 #[.int .i64 8, .int .u8 3, .func (.func f1) #[] #[]] 98
  o2 : Own wr g2 #[.int .i64 4, .int .u8 0, .func (.func 124) #[] #[]] 98
  bel : Below w.heap.size w wr
set_option maxHeartbeats 2000000 in
set_option maxRecDepth 100000 in
theorem hasArms_yes (l : Lay) (wa : Int) (fa : Nat) (wb : Int) (fb : Nat) (har : l.arms = true) (x : Int) (hx : x = 1 ∨ x = 2 ∨ x = 3) {w : World} {ao : Option Addr} {cp : Nat} {ar : List (Int × Int)} (hl : ArmLies w ao ar) (n : Nat) (hn : n = ar.length) (hmx : n ≤ 65535) :
    Calls Tryz.prog 96 #[layV l wa fa wb fb, .int .u8 x, .slice ao n cp] w fun e w' => e = .returned (.bool (ar.all (armOk x))) ∧ Below w.heap.size w w' := by
  obtain ⟨f1, hf1, hval⟩ := value_as x (by omega)
  have oL := Own.new w (layC l wa fa wb fb) 100
  have hb0 := new_below w (.cells (layC l wa fa wb fb) 100)
  unfold layC at oL hb0
  unfold layV
  rw [har] at oL hb0 ⊢
  generalize (l.a.sz : Int) = za at *
  generalize (l.b.sz : Int) = zb at *
  have HLi : Hid (∀ wr, Below w.heap.size w wr → ArmLies wr ao ar) := fun wr h => hl.below h
  have HN : Hid (n = ar.length) := hn
  have hfn : ∀ (a : Array Value) (w : World), (callFunc f1 a).run Tryz.prog w = .ok (.enter f1 a) w := hf1.fn
  have HM1 : Hid (MayIs f1 (nVal x)) := hf1.may
  obtain ⟨Z, HZ⟩ : ∃ Z, Hid (ar.all (armOk x) = Z) := ⟨_, rfl⟩
  rw [HZ.out]
  clear hl hn hf1 hx har
  go_enter Tryz.func96, Tryz.ntmps96
  go_upto_region 1 with fail
  generalize w.alloc (.cells #[.int .i64 za, .int .u8 wa, .func (.func fa) #[] #[], .int .i64 zb, .int .u8 wb, .func (.func fb) #[] #[], .bool true] 100) = w1 at *
  obtain ⟨l0, l1, l2, l3, l4, l5, l6, lf⟩ := own7 oL
  go_wp2_with fail
  refine (hval _).mono ?_
  rintro e w2 ⟨rfl, c2⟩
  replace hb0 := hb0.trans (c2.mono hb0.size)
  clear c2 l0 l1 l2 l3 l4 l5 l6 lf oL hval
  go_wp2_with fail
  refine (place_any _).mono ?_
  rintro e w3 ⟨rfl, c3⟩
  replace hb0 := hb0.trans (c3.mono hb0.size)
  clear c3
  have o1 := (Own.new w3 #[.int .i64 8, .int .u8 3, .func (.func f1) #[] #[]] 98).alloc (.cells #[.int .i64 4, .int .u8 0, .func (.func 124) #[] #[]] 98)
  have o2 := Own.new (w3.alloc (.cells #[.int .i64 8, .int .u8 3, .func (.func f1) #[] #[]] 98)) #[.int .i64 4, .int .u8 0, .func (.func 124) #[] #[]] 98
  rw [World.size_alloc] at o2
  replace hb0 := (hb0.alloc hb0.size (.cells #[.int .i64 8, .int .u8 3, .func (.func f1) #[] #[]] 98)).alloc (Nat.le_trans hb0.size (by simp)) (.cells #[.int .i64 4, .int .u8 0, .func (.func 124) #[] #[]] 98)
  go_upto_region 6 with fail
  generalize (w3.alloc (.cells #[.int .i64 8, .int .u8 3, .func (.func f1) #[] #[]] 98)).alloc (.cells #[.int .i64 4, .int .u8 0, .func (.func 124) #[] #[]] 98) = w4 at *
  have REL : Hid (HaRel w ao ar x w3.heap.size (w3.heap.size + 1) f1 (.int .i64 0) w4) := ⟨⟨0, Nat.zero_le _, rfl, rfl⟩, o1, o2, hb0⟩
  clear o1 o2 hb0
  go_wp2_with fail
  go_loopw [25] (fun i wr => HaRel w ao ar x w3.heap.size (w3.heap.size + 1) f1 i wr) (fun i _ => n - (intOf i).toNat)
  case atStart => exact REL.out
  case round =>
    clear REL
    obtain ⟨⟨k, hk, rfl, hall⟩, o1, o2, hbel⟩ := hrel
    have hli := HLi.out wr hbel
    by_cases hlt : k < n
    · have hka : k < ar.length := by rw [← HN.out]; exact hlt
      rcases hli.lies with h0 | ⟨b, off, rfl, hbl, hc⟩
      · rw [h0] at hka; cases hka
      · obtain ⟨hc1, hc2⟩ := hc k hka
        obtain ⟨V, hV⟩ : ∃ V, ar.getD k (0, 0) = V := ⟨_, rfl⟩
        have hVm : V ∈ ar := by rw [← hV]; simp [List.getD, hka]
        have hVn := hli.nums V hVm
        rw [hV] at hc1 hc2
        have htk : ar.take (k + 1) = ar.take k ++ [V] := by rw [List.take_succ_eq_append_getElem hka]; congr 2; rw [← hV]; simp [List.getD, hka]
        obtain ⟨V1, V2⟩ := V
        simp only at hc1 hc2 hVn
        have M1 := HM1.out V1 
        have oA := Own.new wr #[.int .i64 V1, .int .i64 V2] 51
        have o1a := o1.alloc (.cells #[.int .i64 V1, .int .i64 V2] 51)
        have o2a := o2.alloc (.cells #[.int .i64 V1, .int .i64 V2] 51)
        have hba := hbel.alloc hbel.size (.cells #[.int .i64 V1, .int .i64 V2] 51)
        have HALL : Hid ((ar.take (k + 1)).all (armOk x) = armOk x (V1, V2)) := by unfold Hid; rw [htk, List.all_append, hall]; simp
        have HNO : Hid (armOk x (V1, V2) = false → Z = false) := by
          intro q
          rw [← HZ.out]
          have : (ar.take (k + 1)).all (armOk x) = false := by rw [HALL.out, q]
          rw [← List.take_append_drop (k + 1) ar, List.all_append, this]; rfl
        clear hc hV htk hall hVm hli
        go_upto_region 9 with fail
        generalize wr.alloc (.cells #[.int .i64 V1, .int .i64 V2] 51) = w5 at *
        obtain ⟨a0, a1, af⟩ := own2 oA
        obtain ⟨d0, d1, d2, df⟩ := own3 o1a
        obtain ⟨e0, e1, e2, ef⟩ := own3 o2a
        go_wp2_with fail
        refine (M1 _ hVn.1.1 hVn.1.2).mono ?_
        rintro e w6 ⟨rfl, rfl⟩
        cases m1 : (nVal x).may V1 with
        | false =>
          have hz : Z = false := HNO.out (by unfold armOk; rw [m1]; rfl)
          subst hz
          go_wp2
          go_ret
          exact ⟨rfl, hba⟩
        | true =>
          go_wp2_with fail
          refine (may_place V2 _ hVn.2.1 hVn.2.2).mono ?_
          rintro e w6 ⟨rfl, rfl⟩
          cases m2 : nPlace.may V2 with
          | false =>
            have hz : Z = false := HNO.out (by unfold armOk; rw [m1, m2]; rfl)
            subst hz
            go_wp2
            go_ret
            exact ⟨rfl, hba⟩
          | true =>
            have hok : armOk x (V1, V2) = true := by unfold armOk; rw [m1, m2]; rfl
            go_wp2
            go_roundw
            case rel => exact ⟨⟨k + 1, hka, by go_num, by rw [HALL.out, hok]⟩, o1a, o2a, hba⟩
            case measure => simp [intOf]; omega
    · have hz : Z = true := by
        rw [← HZ.out]
        rw [List.take_of_length_le (by rw [← HN.out]; omega)] at hall
        exact hall
      subst hz
      go_wp2
      go_ret
      exact ⟨rfl, hbel⟩
set_option maxHeartbeats 1000000 in
theorem hasArms_as (l : Lay) (wa : Int) (fa : Nat) (wb : Int) (fb : Nat) (x : Int) (hx : l.arms = true → x = 1 ∨ x = 2 ∨ x = 3) {w : World} {ao : Option Addr} {cp : Nat} {ar : List (Int × Int)} (hl : ArmLies w ao ar) (n : Nat) (hn : n = ar.length) (hmx : n ≤ 1000000) :
    Calls Tryz.prog 96 #[layV l wa fa wb fb, .int .u8 x, .slice ao n cp] w fun e w' => e = .returned (.bool (l.hasArms x ar)) ∧ Below w.heap.size w w' := by
  unfold Lay.hasArms
  cases har : l.arms with
  | false =>
    rw [if_neg (by simp)]
    have e1 : ar.isEmpty = ((n : Int) == 0) := by cases ar with | nil => rw [hn]; rfl | cons y r => rw [hn]; simp; omega
    rw [e1]
    have oL := Own.new w (layC l wa fa wb fb) 100
    have hb0 := new_below w (.cells (layC l wa fa wb fb) 100)
    unfold layC at oL hb0
    unfold layV
    rw [har] at oL hb0 ⊢
    generalize (l.a.sz : Int) = za at *
    generalize (l.b.sz : Int) = zb at *
    obtain ⟨N, hN⟩ : ∃ N : Int, (n : Int) = N := ⟨_, rfl⟩
    rw [hN]
    clear hl hn e1
    go_enter Tryz.func96, Tryz.ntmps96
    go_upto_region 1 with fail
    generalize w.alloc (.cells #[.int .i64 za, .int .u8 wa, .func (.func fa) #[] #[], .int .i64 zb, .int .u8 wb, .func (.func fb) #[] #[], .bool false] 100) = w1 at *
    obtain ⟨l0, l1, l2, l3, l4, l5, l6, lf⟩ := own7 oL
    go_wp2
    go_ret
    refine ⟨ret_bool ?_, hb0⟩
    first | rfl | (rw [← hN]; simp) | (rw [hN]) | simp [hN]
  | true =>
    rw [if_pos rfl]
    by_cases h6 : n ≤ 65535
    · rw [decide_eq_true (by omega), Bool.true_and]
      exact hasArms_yes l wa fa wb fb har x (hx har) hl n hn h6
    · rw [decide_eq_false (by omega), Bool.false_and]
      have oL := Own.new w (layC l wa fa wb fb) 100
      have hb0 := new_below w (.cells (layC l wa fa wb fb) 100)
      unfold layC at oL hb0
      unfold layV
      rw [har] at oL hb0 ⊢
      generalize (l.a.sz : Int) = za at *
      generalize (l.b.sz : Int) = zb at *
      have hN : (65535 : Int) < (n : Int) := by omega
      clear hl hn h6
      go_enter Tryz.func96, Tryz.ntmps96
      go_upto_region 1 with fail
      generalize w.alloc (.cells #[.int .i64 za, .int .u8 wa, .func (.func fa) #[] #[], .int .i64 zb, .int .u8 wb, .func (.func fb) #[] #[], .bool true] 100) = w1 at *
      obtain ⟨l0, l1, l2, l3, l4, l5, l6, lf⟩ := own7 oL
      go_wp2
      go_ret
      exact ⟨rfl, hb0⟩
set_option maxHeartbeats 2000000 in
set_option maxRecDepth 100000 in
theorem has_as (l : Lay) (wa : Int) (fa : Nat) (wb : Int) (fb : Nat) (hok : l.Ok) (hka : NumIs l.a wa fa) (hkb : NumIs l.b wb fb) {w : World} {x : In} {ao : Option Addr} {cp : Nat} (hl : InLies w x ao) (n : Nat) (hn : n = x.arms.length) (hmx : n ≤ 1000000) :
    Calls Tryz.prog 63 #[layV l wa fa wb fb, insV x (.slice ao n cp)] w fun e w' => e = .returned (.bool (l.has x)) ∧ Below w.heap.size w w' := by
  have oL := (Own.new w (layC l wa fa wb fb) 100).alloc (.cells #[.int .u8 (x.op : Int), .int .i64 x.a, .int .i64 x.b, .slice ao n cp] 43)
  have oX := Own.new (w.alloc (.cells (layC l wa fa wb fb) 100)) #[.int .u8 (x.op : Int), .int .i64 x.a, .int .i64 x.b, .slice ao n cp] 43
  rw [World.size_alloc] at oX
  have hb0 : Below w.heap.size w ((w.alloc (.cells (layC l wa fa wb fb) 100)).alloc (.cells #[.int .u8 (x.op : Int), .int .i64 x.a, .int .i64 x.b, .slice ao n cp] 43)) := (new_below _ _).alloc (by simp) _
  have hna : ∀ (a : Array Value) (w : World), (callFunc fa a).run Tryz.prog w = .ok (.enter fa a) w := hka.fn
  have hnb : ∀ (a : Array Value) (w : World), (callFunc fb a).run Tryz.prog w = .ok (.enter fb a) w := hkb.fn
  have MA : Hid (∀ W, Calls Tryz.prog fa #[.int .i64 x.a] W fun e w' => e = .returned (.bool (l.a.may x.a)) ∧ W = w') := fun W => hka.may _ W hl.a.1 hl.a.2
  have MB : Hid (∀ W, Calls Tryz.prog fb #[.int .i64 x.b] W fun e w' => e = .returned (.bool (l.b.may x.b)) ∧ W = w') := fun W => hkb.may _ W hl.b.1 hl.b.2
  have MC : Hid (l.a.may x.a = true → ∀ W, Below w.heap.size w W → Calls Tryz.prog 96 #[layV l wa fa wb fb, .int .u8 (IntKind.u8.wrap x.a), .slice ao n cp] W fun e w' => e = .returned (.bool (l.hasArms x.a x.arms)) ∧ Below W.heap.size W w') := by
    intro hma W hW
    by_cases har : l.arms = true
    · have hw := hok.w har
      rw [hw] at hma
      have h3 := of_decide_eq_true hma
      have h13 : 1 ≤ x.a ∧ x.a ≤ 3 := h3
      have e : IntKind.u8.wrap x.a = x.a := by rw [IntKind.wrap_u8]; omega
      rw [e]
      exact hasArms_as l wa fa wb fb x.a (fun _ => by omega) (hl.arms.below hW) n hn hmx
    · have e : l.hasArms x.a x.arms = l.hasArms (IntKind.u8.wrap x.a) x.arms := by unfold Lay.hasArms; rw [if_neg har, if_neg har]
      rw [e]
      exact hasArms_as l wa fa wb fb _ (fun q => absurd q har) (hl.arms.below hW) n hn hmx
  unfold Lay.has
  unfold layC at oL oX hb0
  unfold layV at MC ⊢
  unfold insV
  generalize l.hasArms x.a x.arms = R3 at *
  generalize l.b.may x.b = R2 at *
  generalize l.a.may x.a = R1 at *
  generalize (l.a.sz : Int) = za at *
  generalize (l.b.sz : Int) = zb at *
  generalize l.arms = za2 at *
  generalize (x.op : Int) = N at *
  generalize x.a = XA at *
  generalize x.b = XB at *
  have HW : Hid (IntKind.u8.wrap XA = XA % 256) := by unfold Hid; rw [IntKind.wrap_u8]
  clear hka hkb hok hl hn
  go_enter Tryz.func63, Tryz.ntmps63
  go_upto_region 1 with fail
  generalize (w.alloc (.cells #[.int .i64 za, .int .u8 wa, .func (.func fa) #[] #[], .int .i64 zb, .int .u8 wb, .func (.func fb) #[] #[], .bool za2] 100)).alloc (.cells #[.int .u8 N, .int .i64 XA, .int .i64 XB, .slice ao n cp] 43) = w1 at *
  obtain ⟨l0, l1, l2, l3, l4, l5, l6, lf⟩ := own7 oL
  obtain ⟨x0, x1, x2, x3, xf⟩ := own4 oX
  go_wp2_with fail
  refine (MA.out _).mono ?_
  rintro e w2 ⟨rfl, rfl⟩
  cases R1 with
  | false =>
    go_wp2
    go_ret
    exact ⟨rfl, hb0⟩
  | true =>
    have MC2 := MC.out rfl w1 hb0
    clear MC
    go_wp2_with fail
    refine (MB.out _).mono ?_
    rintro e w2 ⟨rfl, rfl⟩
    cases R2 with
    | false =>
      go_wp2
      go_ret
      exact ⟨rfl, hb0⟩
    | true =>
      go_wp2_with fail
      first | skip | rw [← HW.out]
      refine MC2.mono ?_
      rintro e w3 ⟨rfl, b3⟩
      have hb3 := hb0.trans (b3.mono hb0.size)
      clear b3 MC2 MA MB
      go_wp2
      go_ret
      exact ⟨rfl, hb3⟩
end Go.Proofs.YtkmmnocooibljaaGreatDoor
