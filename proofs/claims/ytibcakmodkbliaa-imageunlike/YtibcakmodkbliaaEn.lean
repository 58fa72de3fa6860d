/-
  CONTRACTS of the writer's arms, of the landed Size and Encode.
-/
import Derived.Test.YtibcakmodkbliaaHa
namespace Go.Proofs.Ytibcakmodkbliaa
open Go.RowKit
set_option linter.unusedVariables false

theorem arm_flat_len (ar : List (Int × Int)) (k : Nat) : (((ar.take k).map putArm).flatten).length ≤ ar.length * 12 := by
  rw [putArms_flat, List.length_take]; omega
set_option maxHeartbeats 2000000 in
set_option maxRecDepth 100000 in
theorem size_as {w : World} {x : In} {ao : Option Addr} {cp : Nat} (hl : InLies w x ao) (n : Nat) (hn : n = x.arms.length) (hmx : n ≤ 1000000) :
    Calls Try.prog 49 #[insV x (.slice ao n cp)] w fun e w' => e = .returned (.int .i64 (x.size : Int)) ∧ Below w.heap.size w w' := by
  have oX := Own.new w #[.int .u8 (x.op : Int), .int .i64 x.a, .int .i64 x.b, .slice ao n cp] 84
  have hb0 := new_below w (.cells #[.int .u8 (x.op : Int), .int .i64 x.a, .int .i64 x.b, .slice ao n cp] 84)
  have hlx := hl.alloc (.cells #[.int .u8 (x.op : Int), .int .i64 x.a, .int .i64 x.b, .slice ao n cp] 84)
  unfold In.size
  rcases lay_as x.op with ⟨h1, h2⟩ | ⟨l, wa, fa, wb, fb, h1, hka, hkb, h4⟩
  · rw [h1]
    show Calls _ _ _ _ fun e w' => e = .returned (.int .i64 0) ∧ _
    unfold insV
    clear hl hlx hn
    generalize (x.op : Int) = N at *
    go_enter Try.func49, Try.ntmps49
    go_upto_region 1 with fail
    generalize w.alloc (.cells #[.int .u8 N, .int .i64 x.a, .int .i64 x.b, .slice ao n cp] 84) = w1 at *
    obtain ⟨x0, x1, x2, x3, xf⟩ := own4 oX
    go_wp2_with fail
    refine (h2 _).mono ?_
    rintro e w2 ⟨rfl, b2⟩
    replace hb0 := hb0.trans (b2.mono hb0.size)
    clear b2 x0 x1 x2 x3 xf oX
    go_wp2
    go_ret
    exact ⟨rfl, hb0.alloc hb0.size _⟩
  · rw [h1]
    simp only
    have hok := (lay_ok h1).1
    have HAS : Hid (∀ W, Below w.heap.size w W → Calls Try.prog 61 #[layV l wa fa wb fb, insV x (.slice ao n cp)] W fun e w' => e = .returned (.bool (l.has x)) ∧ Below W.heap.size W w') := fun W hW => has_as l wa fa wb fb hok hka hkb (hl.below hW) n hn hmx
    have HSZ : Hid (∀ W, Calls Try.prog 62 #[layV l wa fa wb fb, .int .i64 (n : Int)] W fun e w' => e = .returned (.int .i64 (l.size x.arms.length : Int)) ∧ Below W.heap.size W w') := fun W => by rw [← hn]; exact lsize_as l wa fa wb fb hka.ok.sz hkb.ok.sz n hmx W
    obtain ⟨Z, hZ⟩ : ∃ Z : Int, ((if l.has x = true then l.size x.arms.length else 0 : Nat) : Int) = Z := ⟨_, rfl⟩
    rw [hZ]
    have HZZ : Hid (Z = if l.has x = true then (l.size x.arms.length : Int) else 0) := by unfold Hid; rw [← hZ]; split <;> rfl
    generalize l.has x = H at *
    generalize (l.size x.arms.length : Int) = SZ at *
    unfold insV at HAS ⊢
    unfold layV at HAS HSZ h4
    clear hl hlx hn hka hkb hok h1 hZ
    generalize (l.a.sz : Int) = za at *
    generalize (l.b.sz : Int) = zb at *
    generalize l.arms = zc at *
    generalize (x.op : Int) = N at *
    go_enter Try.func49, Try.ntmps49
    go_upto_region 1 with fail
    generalize w.alloc (.cells #[.int .u8 N, .int .i64 x.a, .int .i64 x.b, .slice ao n cp] 84) = w1 at *
    obtain ⟨x0, x1, x2, x3, xf⟩ := own4 oX
    go_wp2_with fail
    refine (h4 _).mono ?_
    rintro e w2 ⟨rfl, b2⟩
    replace hb0 := hb0.trans (b2.mono hb0.size)
    replace oX := oX.below b2
    clear b2 x0 x1 x2 x3 xf h4
    have oL := Own.new w2 #[.int .i64 za, .int .u8 wa, .func (.func fa) #[] #[], .int .i64 zb, .int .u8 wb, .func (.func fb) #[] #[], .bool zc] 94
    replace oX := oX.alloc (.cells #[.int .i64 za, .int .u8 wa, .func (.func fa) #[] #[], .int .i64 zb, .int .u8 wb, .func (.func fb) #[] #[], .bool zc] 94)
    replace hb0 := hb0.alloc hb0.size (.cells #[.int .i64 za, .int .u8 wa, .func (.func fa) #[] #[], .int .i64 zb, .int .u8 wb, .func (.func fb) #[] #[], .bool zc] 94)
    go_upto_region 2 with fail
    generalize w2.alloc (.cells #[.int .i64 za, .int .u8 wa, .func (.func fa) #[] #[], .int .i64 zb, .int .u8 wb, .func (.func fb) #[] #[], .bool zc] 94) = w3 at *
    obtain ⟨x0, x1, x2, x3, xf⟩ := own4 oX
    obtain ⟨l0, l1, l2, l3, l4, l5, l6, lf⟩ := own7 oL
    have hcall := HAS.out w3 hb0
    go_wp2_with fail
    refine hcall.mono ?_
    rintro e w4 ⟨rfl, b4⟩
    replace hb0 := hb0.trans (b4.mono hb0.size)
    replace oX := oX.below b4
    replace oL := oL.below b4
    clear b4 hcall HAS x0 x1 x2 x3 xf l0 l1 l2 l3 l4 l5 l6 lf
    obtain ⟨x0, x1, x2, x3, xf⟩ := own4 oX
    obtain ⟨l0, l1, l2, l3, l4, l5, l6, lf⟩ := own7 oL
    cases H with
    | false =>
      have hz : Z = 0 := by rw [HZZ.out]; rfl
      clear HZZ
      subst hz
      go_wp2
      go_ret
      exact ⟨rfl, hb0⟩
    | true =>
      have hz : Z = SZ := by rw [HZZ.out]; rfl
      clear HZZ
      subst hz
      go_wp2_with fail
      refine (HSZ.out _).mono ?_
      rintro e w5 ⟨rfl, b5⟩
      replace hb0 := hb0.trans (b5.mono hb0.size)
      clear b5
      go_wp2
      go_ret
      exact ⟨rfl, hb0⟩
end Go.Proofs.Ytibcakmodkbliaa
