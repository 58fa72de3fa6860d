/-
  En, what is reached of it.
-/
import Derived.Test.YtkmmnocooibljaaGreatDoorLz
import Derived.Test.YtkmmnocooibljaaGreatDoorHaq
namespace Go.Proofs.YtkmmnocooibljaaGreatDoor
open Go.ChangeShapes Go.WideShapes Go.ChangeAt Go.RowKit Go.Deep
set_option linter.unusedVariables false

structure WaRel (w : World) (p B : Nat) (xs : List Nat) (ar : List (Int × Int)) (i : Value) (wr : World) : Prop where
  ex : ∃ k : Nat, k ≤ ar.length ∧ i = .int .i64 (k : Int) ∧ WrAt wr p B (xs ++ ((ar.take k).map putArm).flatten)
  fr : WrFr p B w wr
theorem arm_flat_len (ar : List (Int × Int)) (k : Nat) : (((ar.take k).map putArm).flatten).length ≤ ar.length * 12 := by
  rw [putArms_flat, List.length_take]; omega
set_option maxHeartbeats 4000000 in
set_option maxRecDepth 100000 in
theorem warms_as {w : World} {p B : Nat} {xs : List Nat} (h : WrAt w p B xs) (hB : B ≤ w.heap.size) (hp : B ≤ p) {ao : Option Addr} {cp : Nat} {ar : List (Int × Int)} (hl : ArmLies w ao ar) (hab : ∀ b off, ao = some ⟨b, off, none⟩ → ar ≠ [] → b < B) (n : Nat) (hn : n = ar.length) (hmx : n ≤ 1000000) (hxs : xs.length ≤ 1000000) :
    Calls Tryz.prog 108 #[ptr p, .slice ao n cp] w (WrRet p B (xs ++ (nShort.put ar.length ++ (ar.map putArm).flatten)) w) := by
  have HLi : Hid (∀ wr, WrFr p B w wr → ArmLies wr ao ar) := by
    intro wr hf
    by_cases h0 : ar = []
    · subst h0; exact ⟨hl.nums, .inl rfl⟩
    · exact hl.fr hf.fr (fun b off e _ q => by have := hab b off e h0; omega)
  have HN : Hid (n = ar.length) := hn
  have hnn : (ar.length : Int) = (n : Int) := by omega
  rw [hnn, ← List.append_assoc]
  clear hl hab hnn hn
  go_enter Tryz.func108, Tryz.ntmps108
  go_wp2_with fail
  refine (short_any _).mono ?_
  rintro e w1 ⟨rfl, b1⟩
  replace h := h.below b1
  have hf1 : WrFr p B w w1 := WrFr.of b1
  have hB1 := Nat.le_trans hB b1.size
  clear b1
  have hc1 := wnum_as (k := nShort) (wd := 0) (f := 121) (by decide) h hB1 (n : Int) (by omega)
  go_wp2_with fail
  refine hc1.mono ?_
  rintro e w2 ⟨rfl, h2, f2⟩
  have hf2 := hf1.trans f2
  have hlen2 : (xs ++ nShort.put (n : Int)).length ≤ 1000002 := by rw [List.length_append, Nm.put_length]; show _ + 2 ≤ _; omega
  generalize hys : xs ++ nShort.put (n : Int) = ys at *
  clear hc1 f2 hf1 h hys
  have REL : Hid (WaRel w p B ys ar (.int .i64 0) w2) := ⟨⟨0, Nat.zero_le _, rfl, by simpa using h2⟩, hf2⟩
  clear h2 hf2
  go_wp2_with fail
  go_loopw [13] (fun i wr => WaRel w p B ys ar i wr) (fun i _ => n - (intOf i).toNat)
  case atStart => exact REL.out
  case round =>
    clear REL
    obtain ⟨⟨k, hk, rfl, hw⟩, hf⟩ := hrel
    have hli := HLi.out wr hf
    have hBr : B ≤ wr.heap.size := Nat.le_trans hB hf.fr.size
    by_cases hlt : k < n
    · have hka : k < ar.length := by rw [← HN.out]; exact hlt
      rcases hli.lies with h0 | ⟨b, off, rfl, hbl, hc⟩
      · rw [h0] at hka; cases hka
      · obtain ⟨hc1, hc2⟩ := hc k hka
        obtain ⟨V, hV⟩ : ∃ V, ar.getD k (0, 0) = V := ⟨_, rfl⟩
        rw [hV] at hc1 hc2
        have htk : ar.take (k + 1) = ar.take k ++ [V] := by rw [List.take_succ_eq_append_getElem hka]; congr 2; rw [← hV]; simp [List.getD, hka]
        obtain ⟨V1, V2⟩ := V
        simp only at hc1 hc2
        obtain ⟨zs, hzs⟩ : ∃ zs, zs = ys ++ ((ar.take k).map putArm).flatten := ⟨_, rfl⟩
        have hzl : zs.length ≤ 100000000 := by
          have := arm_flat_len ar k
          have := HN.out
          rw [hzs, List.length_append]; omega
        have HT : Hid (ys ++ ((ar.take (k + 1)).map putArm).flatten = (zs ++ nI64.put V1) ++ nPlace.put V2) := by
          unfold Hid
          rw [hzs, htk, List.map_append, List.flatten_append]; simp [putArm]
        rw [← hzs] at hw
        have oA := Own.new wr #[.int .i64 V1, .int .i64 V2] 51
        have hwa := hw.alloc (.cells #[.int .i64 V1, .int .i64 V2] 51)
        have hfa := hf.trans (WrFr.of (new_below wr (.cells #[.int .i64 V1, .int .i64 V2] 51)))
        have hgp : wr.heap.size ≠ p := by have := hw.choose_spec.1.lt; omega
        clear hc hV htk hli hw hf hzs
        go_upto_region 4 with fail
        have hsz : (wr.alloc (.cells #[.int .i64 V1, .int .i64 V2] 51)).heap.size = wr.heap.size + 1 := World.size_alloc _ _
        generalize wr.alloc (.cells #[.int .i64 V1, .int .i64 V2] 51) = w5 at *
        have hB5 : B ≤ w5.heap.size := by omega
        have hwd := hwa.drew
        have oAd := oA.drew
        have hfd : WrFr p B w w5.drew := hfa.trans ⟨(Fr.refl _ w5).drew, fun g cs t k1 _ _ => k1.drew⟩
        obtain ⟨a0, a1, af⟩ := own2 oAd
        clear hwa oA hfa
        go_region_held3 (fun w' => w'.cell? ⟨wr.heap.size, 0, none⟩ = some (.int .i64 V1)) (go_keep)
          (first
            | (have hz := oB; clear hz; go_at_call 107; refine (wnum_as (k := nI64) (wd := 3) (f := 120) (by decide) hwB hBB V1 (by omega)).mono ?_; rintro en wC ⟨rfl, hwC, fC⟩; have oC := fC.typ _ _ _ oB (by decide) hgp; have hfC := hfB.trans fC; obtain ⟨c0, c1, cf⟩ := own2 oC)
            | (go_at_call 95; refine (value3 _).mono ?_; rintro en wB ⟨rfl, bB⟩; have hwB := hwd.below bB; have oB := oAd.below bB; have hfB := hfd.trans (WrFr.of bB); have hBB : B ≤ wB.heap.size := Nat.le_trans hB5 bB.size; obtain ⟨b0, b1, bf⟩ := own2 oB)
            | fail)
        have hBC : B ≤ wC.heap.size := Nat.le_trans hBB fC.fr.size
        have hlC : (zs ++ nI64.put V1).length ≤ 1000000000 := by rw [List.length_append, Nm.put_length]; show _ + 8 ≤ _; omega
        generalize zs ++ nI64.put V1 = zt at *
        clear a0 a1 af b0 b1 bf c0 c1 cf hwB oB hfB fC hwd oAd hfd hB5
        have hwd := hwC.drew
        have oAd := oC.drew
        have hfd : WrFr p B w wC.drew := hfC.trans ⟨(Fr.refl _ wC).drew, fun g cs t k1 _ _ => k1.drew⟩
        obtain ⟨a0, a1, af⟩ := own2 oAd
        clear hwC oC hfC
        go_upto_region 5 with fail
        go_region_held3 (fun w' => w'.cell? ⟨wr.heap.size, 1, none⟩ = some (.int .i64 V2)) (go_keep)
          (first
            | (have hz := oB; clear hz; go_at_call 107; refine (wnum_as (k := nPlace) (wd := 0) (f := 124) (by decide) hwB hBB V2 (by omega)).mono ?_; rintro en wD ⟨rfl, hwD, fD⟩; have oD := fD.typ _ _ _ oB (by decide) hgp; have hfD := hfB.trans fD; obtain ⟨c0, c1, cf⟩ := own2 oD)
            | (go_at_call 91; refine (place_any _).mono ?_; rintro en wB ⟨rfl, bB⟩; have hwB := hwd.below bB; have oB := oAd.below bB; have hfB := hfd.trans (WrFr.of bB); have hBB : B ≤ wB.heap.size := Nat.le_trans hBC bB.size; obtain ⟨b0, b1, bf⟩ := own2 oB)
            | fail)
        go_wp2
        go_roundw
        case rel => exact ⟨⟨k + 1, hka, by go_num, by rw [HT.out]; exact hwD⟩, hfD⟩
        case measure => simp [intOf]; omega
    · have hka : ar.take k = ar := List.take_of_length_le (by rw [← HN.out]; omega)
      rw [hka] at hw
      have HZ : Hid (WrRet p B (ys ++ (ar.map putArm).flatten) w (.returned (.tuple #[])) wr) := ⟨rfl, hw, hf⟩
      clear hw hf hli
      go_wp2
      go_end0
      exact HZ.out
set_option maxHeartbeats 2000000 in
set_option maxRecDepth 100000 in
theorem size_as {w : World} {x : In} {ao : Option Addr} {cp : Nat} (hl : InLies w x ao) (n : Nat) (hn : n = x.arms.length) (hmx : n ≤ 1000000) :
    Calls Tryz.prog 37 #[insV x (.slice ao n cp)] w fun e w' => e = .returned (.int .i64 (x.size : Int)) ∧ Below w.heap.size w w' := by
  have oX := Own.new w #[.int .u8 (x.op : Int), .int .i64 x.a, .int .i64 x.b, .slice ao n cp] 43
  have hb0 := new_below w (.cells #[.int .u8 (x.op : Int), .int .i64 x.a, .int .i64 x.b, .slice ao n cp] 43)
  have hlx := hl.alloc (.cells #[.int .u8 (x.op : Int), .int .i64 x.a, .int .i64 x.b, .slice ao n cp] 43)
  unfold In.size
  rcases lay_as x.op with ⟨h1, h2⟩ | ⟨l, wa, fa, wb, fb, h1, hka, hkb, h4⟩
  · rw [h1]
    show Calls _ _ _ _ fun e w' => e = .returned (.int .i64 0) ∧ _
    unfold insV
    clear hl hlx hn
    generalize (x.op : Int) = N at *
    go_enter Tryz.func37, Tryz.ntmps37
    go_upto_region 1 with fail
    generalize w.alloc (.cells #[.int .u8 N, .int .i64 x.a, .int .i64 x.b, .slice ao n cp] 43) = w1 at *
    obtain ⟨x0, x1, x2, x3, xf⟩ := own4 oX
    go_wp2_with fail
    refine (h2 _).mono ?_
    rintro e w2 ⟨rfl, b2⟩
    replace hb0 := hb0.trans (b2.mono hb0.size)
    clear b2 x0 x1 x2 x3 xf oX
    go_wp2
    go_ret
    exact ⟨rfl, hb0.alloc hb0.size _⟩
  · rw [h1]
    simp only
    have hok := (lay_ok h1).1
    have HAS : Hid (∀ W, Below w.heap.size w W → Calls Tryz.prog 63 #[layV l wa fa wb fb, insV x (.slice ao n cp)] W fun e w' => e = .returned (.bool (l.has x)) ∧ Below W.heap.size W w') := fun W hW => has_as l wa fa wb fb hok hka hkb (hl.below hW) n hn hmx
    have HSZ : Hid (∀ W, Calls Tryz.prog 64 #[layV l wa fa wb fb, .int .i64 (n : Int)] W fun e w' => e = .returned (.int .i64 (l.size x.arms.length : Int)) ∧ Below W.heap.size W w') := fun W => by rw [← hn]; exact lsize_as l wa fa wb fb hka.ok.sz hkb.ok.sz n hmx W
    obtain ⟨Z, hZ⟩ : ∃ Z : Int, ((if l.has x = true then l.size x.arms.length else 0 : Nat) : Int) = Z := ⟨_, rfl⟩
    rw [hZ]
    have HZZ : Hid (Z = if l.has x = true then (l.size x.arms.length : Int) else 0) := by unfold Hid; rw [← hZ]; split <;> rfl
    generalize l.has x = H at *
    generalize (l.size x.arms.length : Int) = SZ at *
    unfold insV at HAS ⊢
    unfold layV at HAS HSZ h4
    clear hl hlx hn hka hkb hok h1 hZ
    generalize (l.a.sz : Int) = za at *
    generalize (l.b.sz : Int) = zb at *
    generalize l.arms = zc at *
    generalize (x.op : Int) = N at *
    go_enter Tryz.func37, Tryz.ntmps37
    go_upto_region 1 with fail
    generalize w.alloc (.cells #[.int .u8 N, .int .i64 x.a, .int .i64 x.b, .slice ao n cp] 43) = w1 at *
    obtain ⟨x0, x1, x2, x3, xf⟩ := own4 oX
    go_wp2_with fail
    refine (h4 _).mono ?_
    rintro e w2 ⟨rfl, b2⟩
    replace hb0 := hb0.trans (b2.mono hb0.size)
    replace oX := oX.below b2
    clear b2 x0 x1 x2 x3 xf h4
    have oL := Own.new w2 #[.int .i64 za, .int .u8 wa, .func (.func fa) #[] #[], .int .i64 zb, .int .u8 wb, .func (.func fb) #[] #[], .bool zc] 100
    replace oX := oX.alloc (.cells #[.int .i64 za, .int .u8 wa, .func (.func fa) #[] #[], .int .i64 zb, .int .u8 wb, .func (.func fb) #[] #[], .bool zc] 100)
    replace hb0 := hb0.alloc hb0.size (.cells #[.int .i64 za, .int .u8 wa, .func (.func fa) #[] #[], .int .i64 zb, .int .u8 wb, .func (.func fb) #[] #[], .bool zc] 100)
    go_upto_region 2 with fail
    generalize w2.alloc (.cells #[.int .i64 za, .int .u8 wa, .func (.func fa) #[] #[], .int .i64 zb, .int .u8 wb, .func (.func fb) #[] #[], .bool zc] 100) = w3 at *
    obtain ⟨x0, x1, x2, x3, xf⟩ := own4 oX
    obtain ⟨l0, l1, l2, l3, l4, l5, l6, lf⟩ := own7 oL
    have hcall := HAS.out w3 hb0
    go_wp2_with fail
    refine hcall.mono ?_
    rintro e w4 ⟨rfl, b4⟩
    replace hb0 := hb0.trans (b4.mono hb0.size)
    replace oX := oX.below b4
    replace oL := oL.below b4
    clear b4 hcall HAS x0 x1 x2 x3 xf l0 l1 l2 l3 l4 l5 l6 lf
    obtain ⟨x0, x1, x2, x3, xf⟩ := own4 oX
    obtain ⟨l0, l1, l2, l3, l4, l5, l6, lf⟩ := own7 oL
    cases H with
    | false =>
      have hz : Z = 0 := by rw [HZZ.out]; rfl
      clear HZZ
      subst hz
      go_wp2
      go_ret
      exact ⟨rfl, hb0⟩
    | true =>
      have hz : Z = SZ := by rw [HZZ.out]; rfl
      clear HZZ
      subst hz
      go_wp2_with fail
      refine (HSZ.out _).mono ?_
      rintro e w5 ⟨rfl, b5⟩
      replace hb0 := hb0.trans (b5.mono hb0.size)
      clear b5
      go_wp2
      go_ret
      exact ⟨rfl, hb0⟩
end Go.Proofs.YtkmmnocooibljaaGreatDoor
