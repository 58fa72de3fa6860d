/-
  CONTRACT of ofArray: by the op.
-/
import Derived.Test.YtjfdlphkmpkjdaaDoorJtb
namespace Go.Proofs.YtjfdlphkmpkjdaaDoor
open Go.RowKit
set_option linter.unusedVariables false

theorem own_sets5 {w : World} {g g' : Nat} {cs : Array Value} {t : TypeId} (h : Own w g cs t) (hne : ¬ g' = g) (v0 v1 v2 v3 v4 : Value) : Own (((((w.setCell ⟨g', 0, none⟩ v0).setCell ⟨g', 1, none⟩ v1).setCell ⟨g', 2, none⟩ v2).setCell ⟨g', 3, none⟩ v3).setCell ⟨g', 4, none⟩ v4) g cs t :=
  ((((h.other (i := 0) (by omega) v0).other (i := 1) (by omega) v1).other (i := 2) (by omega) v2).other (i := 3) (by omega) v3).other (i := 4) (by omega) v4
theorem own_put5 {w : World} {g : Nat} {t : TypeId} {a0 a1 a2 a3 a4 : Value} (h : Own w g #[a0, a1, a2, a3, a4] t) (b0 b1 b2 b3 b4 : Value) : Own (((((w.setCell ⟨g, 0, none⟩ b0).setCell ⟨g, 1, none⟩ b1).setCell ⟨g, 2, none⟩ b2).setCell ⟨g, 3, none⟩ b3).setCell ⟨g, 4, none⟩ b4) g #[b0, b1, b2, b3, b4] t := by
  have := (((((h.set 0 b0).set 1 b1).set 2 b2).set 3 b3).set 4 b4)
  simpa using this
theorem below_sets5 {w w' : World} {g : Nat} (h : Below w.heap.size w w') (hg : w.heap.size ≤ g) (v0 v1 v2 v3 v4 : Value) : Below w.heap.size w (((((w'.setCell ⟨g, 0, none⟩ v0).setCell ⟨g, 1, none⟩ v1).setCell ⟨g, 2, none⟩ v2).setCell ⟨g, 3, none⟩ v3).setCell ⟨g, 4, none⟩ v4) :=
  ((((h.setCell hg v0).setCell hg v1).setCell hg v2).setCell hg v3).setCell hg v4
theorem Own.c5 {w : World} {g : Nat} {a0 a1 a2 a3 a4 : Value} {t : TypeId} (h : Own w g #[a0, a1, a2, a3, a4] t) : w.cell? ⟨g, 0, none⟩ = some a0 ∧ w.cell? ⟨g, 1, none⟩ = some a1 ∧ w.cell? ⟨g, 2, none⟩ = some a2 ∧ w.cell? ⟨g, 3, none⟩ = some a3 ∧ w.cell? ⟨g, 4, none⟩ = some a4 ∧ ∀ j, w.frozen? ⟨g, j, none⟩ = false := own5' h
def ksOf (op : Nat) : List Nat := if op = 39 then [7] else if op = 40 ∨ op = 44 ∨ op = 45 then [8] else [7, 8]
def arrT (op : Nat) (x el : Int) : Option (List Int × List Int) := if op = 39 then some ([el], [x]) else if op = 40 then some ([], [x]) else if op = 41 then some ([x, 3], [el]) else if op = 42 then some ([x, 3, el], []) else if op = 43 then some ([x], [3]) else if op = 44 then some ([x, el], []) else some ([x], [el])
def arrM (tys : List TyP) (op : Nat) (x : Int) : Option (List Int × List Int) := match fnd tys x (ksOf op) with
  | none => none
  | some t => arrT op x t.t.elem
set_option maxHeartbeats 4000000 in
set_option maxRecDepth 100000 in
theorem ofArray39 {w : World} {a : Option Addr} {n c : Nat} {tys : List TyP} (hr : RowAt w a 5 tys.length (tyF tys)) (hn : n = tys.length) (hm : n ≤ 100000) (hty : ∀ t ∈ tys, TyIn w t ∧ t.t.fields.length ≤ 100000) (x y : Int) (h0 : 0 ≤ x) (h1 : x ≤ 65535) (ao : Option Addr) (na ca : Nat) :
    Calls Tryd.prog 48 #[.agg #[.int .u8 39, .int .i64 x, .int .i64 y, .slice ao na ca], .slice a n c] w (OutRet w (arrM tys 39 x)) := by
  have ox := Own.new w #[.int .u8 39, .int .i64 x, .int .i64 y, .slice ao na ca] 24
  have bx := new_below w (.cells #[.int .u8 39, .int .i64 x, .int .i64 y, .slice ao na ca] 24)
  obtain ⟨R, HR⟩ : ∃ R, Hid (arrM tys 39 x = R) := ⟨_, rfl⟩
  rw [HR.out]
  have HTY : Hid (∀ W, Below w.heap.size w W → RowAt W a 5 tys.length (tyF tys)) := fun W hb => hr.below hb
  have HTI : Hid (∀ t ∈ tys, ∀ W, Below w.heap.size w W → TyIn W t) := fun t ht W hb => (hty t ht).1.below hb
  have HK : Hid (∀ t ∈ tys, t.t.kind < 256 ∧ t.t.fields.length ≤ 100000) := fun t ht => ⟨(hty t ht).1.kind, (hty t ht).2⟩
  clear hr hty
  go_enter Tryd.func48, Tryd.ntmps48
  go_upto_region 1 with fail
  have ex : (w.alloc (.cells #[.int .u8 39, .int .i64 x, .int .i64 y, .slice ao na ca] 24)).heap.size = w.heap.size + 1 := World.size_alloc _ _
  generalize w.alloc (.cells #[.int .u8 39, .int .i64 x, .int .i64 y, .slice ao na ca] 24) = wx at *
  have o0 := Own.new wx zEff 69
  have bn := new_below wx (.cells zEff 69)
  have ox1 := ox.below bn
  have b0 := bx.trans (bn.mono bx.size)
  have e1 : (wx.alloc (.cells zEff 69)).heap.size = w.heap.size + 2 := by rw [World.size_alloc, ex]
  rw [ex] at o0
  clear ex bx bn ox
  generalize wx.alloc (.cells zEff 69) = w1 at *
  have E1 : Hid (w1.heap.size = w.heap.size + 2) := e1
  have HF : Hid (∀ W g, Below w.heap.size w W → KsAt W g [7] → Calls Tryd.prog 70 #[.slice a n c, .int .i64 x, .slice (some ⟨g, 0, none⟩) 1 1] W (FndRet W (fnd tys x [7]))) := fun W g hb hk => find_as (HTY.out _ hb) hn (by omega) (fun t ht => (HK.out t ht).1) x h0 h1 hk rfl
  clear e1 hn hm HTY HTI HK
  have b1 := b0
  have ne1 : ¬ w.heap.size = w1.heap.size := by have := E1.out; omega
  have ne2 : ¬ w1.heap.size = w.heap.size := by omega
  have o0b := o0
  obtain ⟨TC, BB, HBB⟩ : ∃ (TC : Array Value) (BB : Bool), Hid ((∀ W e W', FndRet W (fnd tys x [7]) e W' → e = .returned (.tuple #[.agg TC, .bool BB]) ∧ Below W.heap.size W W') ∧ (∃ (a0 : Int) (a1 : ByteArray) (a2 : Option Addr) (a3 a4 : Nat) (a5 a6 : Int), TC = #[.int .u8 a0, .string a1, .slice a2 a3 a4, .int .i64 a5, .int .i64 a6] ∧ ((BB = false ∧ R = none) ∨ (BB = true ∧ R = arrT 39 x a5)))) := by
    cases hf : fnd tys x [7] with
    | none => exact ⟨zTyA, false, ⟨fun W e W' h => h, ⟨_, _, _, _, _, _, _, rfl, .inl ⟨rfl, by rw [← HR.out]; unfold arrM; rw [show ksOf 39 = [7] from rfl, hf]⟩⟩⟩⟩
    | some t => exact ⟨tyA t, true, ⟨fun W e W' h => h, ⟨_, _, _, _, _, _, _, rfl, .inr ⟨rfl, by rw [← HR.out]; unfold arrM; rw [show ksOf 39 = [7] from rfl, hf]⟩⟩⟩⟩
  obtain ⟨HB1, a0, a1, a2, a3, a4, el, a6, rfl, hBR⟩ := HBB.out
  have HB2 : Hid (∀ W e W', FndRet W (fnd tys x [7]) e W' → e = .returned (.tuple #[.agg #[.int .u8 a0, .string a1, .slice a2 a3 a4, .int .i64 el, .int .i64 a6], .bool BB]) ∧ Below W.heap.size W W') := HB1
  clear HB1 HBB HR
  obtain ⟨x0, x1, x2, x3, xf⟩ := own4 ox1
  clear x2 x3
  go_upto_region 1 with fail
  go_cut [6, 7] from 9 to 77 (fun s6 s7 wx => ∃ g, s6 = .pointer (some ⟨g, 0, none⟩) ∧ s7 = .bool BB ∧ Own wx g #[.int .u8 a0, .string a1, .slice a2 a3 a4, .int .i64 el, .int .i64 a6] 57 ∧ Own wx w.heap.size #[.int .u8 39, .int .i64 x, .int .i64 y, .slice ao na ca] 24 ∧ Own wx (w.heap.size + 1) zEff 69 ∧ Below w.heap.size w wx ∧ ¬ g = w.heap.size + 1 ∧ ¬ w.heap.size + 1 = g)
  case first =>
    go_region_held3 (fun w' => w'.cell? ⟨w.heap.size, 0, none⟩ = some (.int .u8 39) ∧ w'.cell? ⟨w.heap.size, 1, none⟩ = some (.int .i64 x)) (go_keep)
      (first
        | (go_at_call 72; refine (arraysOf39 _).mono ?_; rintro en W2 ⟨gk, rfl, hks, k2⟩; have B2 : Below w1.heap.size w1 W2 := (by first | exact (below_drew1 (Below.refl _ w1)).trans k2 | exact (belowA w1 _).trans (k2.mono (belowA w1 _).size)); (try have oz2 : Own W2 w1.heap.size zTyA 57 := (show Own (w1.alloc (.cells zTyA 57)).drew w1.heap.size zTyA 57 from Own.new w1 zTyA 57).below k2); obtain ⟨n0, n1, n2, n3, nf⟩ := own4 (ox1.below B2); have m1 : ¬ W2.heap.size = w.heap.size := (by have := B2.size; have := E1.out; omega); have m2 : ¬ w.heap.size = W2.heap.size := (by omega); clear n2 n3)
        | (have hz := B2; clear hz; go_at_call 70; refine (HF.out _ gk (by first | exact b1.trans (B2.mono b1.size) | exact b1.trans ((B2.alloc B2.size _).mono b1.size)) (by first | exact hks | exact hks.below (new_below _ _))).mono ?_; rintro en W3 hq3; obtain ⟨rfl, k3⟩ := HB2.out _ _ _ hq3; have B3 : Below w1.heap.size w1 W3 := (by first | exact B2.trans (k3.mono B2.size) | exact (B2.alloc B2.size _).trans (k3.mono (B2.alloc B2.size _).size)); (try have oz3 := oz2.below k3); (try have oz3 := (Own.new W2 zTyA 57).below k3); (try obtain ⟨q0, q1, q2, q3, q4, qf⟩ := oz3.c5); obtain ⟨p0, p1, p2, p3, pf⟩ := own4 (ox1.below B3); have m3 : ¬ W3.heap.size = w.heap.size := (by have := B3.size; have := E1.out; omega); have m4 : ¬ w.heap.size = W3.heap.size := (by omega); clear p2 p3))
    all_goals (
      go_wp2_with fail
      go_meet
      have BB3 : Below w.heap.size w W3 := b1.trans (B3.mono b1.size)
      have g2 : w.heap.size + 2 ≤ w1.heap.size := by have := E1.out; omega
      have g3 : w1.heap.size ≤ W2.heap.size := B2.size
      have g4 : w1.heap.size ≤ W3.heap.size := B3.size
      first
        | (have hz := oz3; clear hz; exact ⟨_, rfl, rfl, own_put5 oz3 _ _ _ _ _, own_sets5 (ox1.below B3) (by omega) _ _ _ _ _, own_sets5 (o0b.below B3) (by omega) _ _ _ _ _, below_sets5 BB3 (by omega) _ _ _ _ _, by omega, by omega⟩)
        | exact ⟨_, rfl, rfl, Own.new _ _ _, (ox1.below B3).alloc _, (o0b.below B3).alloc _, BB3.alloc BB3.size _, by omega, by omega⟩)
  case rest =>
    obtain ⟨g6, rfl, rfl, oT, oX, oR, bl, gn1, gn2⟩ := hcut
    have hw : w.heap.size ≤ w.heap.size + 1 := by omega
    clear x0 x1 xf ox1 o0 b0 b1 o0b ne1 ne2 HF HB2 E1
    obtain ⟨x0, x1, x2, x3, xf⟩ := own4 oX
    obtain ⟨t0, t1, t2, t3, t4, tf⟩ := own5' oT
    rcases hBR with ⟨rfl, rfl⟩ | ⟨rfl, rfl⟩
    · go_upto_region 3 with fail
      clear x0 x1 x2 x3 xf t0 t1 t2 t3 t4 tf
      go_wp2_with (refine wpList_put rfl 69 (.tmp 4) (.tmp 21) rfl rfl (w.heap.size + 1) 0 rfl rfl oR infoE rfl (by simp) rfl ?_; intro w5 o5 g5)
      refine bodyPost_cell2 (g := w.heap.size + 1) (t := 69) rfl rfl rfl o5 Tryd.underlying69 rfl (by kernel_rfl) ?_
      exact ⟨⟨_, _, _, _, _, _, rfl⟩, bl.grown g5 bl.size (fun k e => by cases e; omega)⟩
    · go_upto_region 7 with fail
      go_wp2_with fail
      refine (takeL (B := w.heap.size) bl.size [el] (by simp)).mono ?_
      rintro e w2 ⟨ta, tc, rfl, i2, k2⟩
      have o2 := oR.below (k2.mono (Nat.le_refl _))
      have b2 := bl.trans (k2.mono bl.size)
      clear oR bl k2 oT oX x0 x1 x2 x3 xf t0 t1 t2 t3 t4 tf
      go_wp2_with fail
      refine (putL (B := w.heap.size) b2.size i2 [x] (by simp)).mono ?_
      rintro e w3 ⟨pa, pc, rfl, i3, j3, k3⟩
      have o3 := o2.below (k3.mono (Nat.le_refl _))
      have b3 := b2.trans (k3.mono b2.size)
      clear o2 b2 k3 i2
      go_wp2_with (refine wpList_put rfl 69 (.tmp 4) (.tmp 34) rfl rfl (w.heap.size + 1) 0 rfl rfl o3 infoE rfl (by simp) rfl ?_; intro w5 o5 g5)
      refine bodyPost_cell2 (g := w.heap.size + 1) (t := 69) rfl rfl rfl o5 Tryd.underlying69 rfl (by kernel_rfl) ?_
      exact ⟨⟨_, _, _, _, rfl, i3.grown g5 o3 (by decide), j3.grown g5 o3 (by decide)⟩, b3.grown g5 b3.size (fun k e => by cases e; omega)⟩
end Go.Proofs.YtjfdlphkmpkjdaaDoor
