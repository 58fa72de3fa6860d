/-
  CONTRACT of ofRecord: by the op.
-/
import Derived.Test.YtibcakmodkbliaaTk8
namespace Go.Proofs.Ytibcakmodkbliaa
open Go.RowKit
set_option linter.unusedVariables false

def recT (t : TyP) (op : Nat) (x y : Int) : Option (List Int × List Int) := if op = 36 then some (t.t.fields.map Fl.typ, [x]) else if y < (t.t.fields.length : Int) then (if op = 37 then some ([x], [(t.t.fields.getD y.toNat zFl).typ]) else some ([x, (t.t.fields.getD y.toNat zFl).typ], [])) else none
def recM (tys : List TyP) (op : Nat) (x y : Int) : Option (List Int × List Int) := match fnd tys x [6] with
  | none => none
  | some t => recT t op x y
set_option maxHeartbeats 4000000 in
set_option maxRecDepth 100000 in
theorem ofRecord37 {w : World} {a : Option Addr} {n c : Nat} {tys : List TyP} (hr : RowAt w a 5 tys.length (tyF tys)) (hn : n = tys.length) (hm : n ≤ 100000) (hty : ∀ t ∈ tys, TyIn w t ∧ t.t.fields.length ≤ 100000) (x y : Int) (h0 : 0 ≤ x) (h1 : x ≤ 65535) (g0 : 0 ≤ y) (g1 : y ≤ 65535) (ao : Option Addr) (na ca : Nat) :
    Calls Try.prog 66 #[.agg #[.int .u8 37, .int .i64 x, .int .i64 y, .slice ao na ca], .slice a n c] w (OutRet w (recM tys 37 x y)) := by
  have ox := Own.new w #[.int .u8 37, .int .i64 x, .int .i64 y, .slice ao na ca] 84
  have bx := new_below w (.cells #[.int .u8 37, .int .i64 x, .int .i64 y, .slice ao na ca] 84)
  obtain ⟨R, HR⟩ : ∃ R, Hid (recM tys 37 x y = R) := ⟨_, rfl⟩
  rw [HR.out]
  have HTY : Hid (∀ W, Below w.heap.size w W → RowAt W a 5 tys.length (tyF tys)) := fun W hb => hr.below hb
  have HTI : Hid (∀ t ∈ tys, ∀ W, Below w.heap.size w W → TyIn W t) := fun t ht W hb => (hty t ht).1.below hb
  have HK : Hid (∀ t ∈ tys, t.t.kind < 256 ∧ t.t.fields.length ≤ 100000) := fun t ht => ⟨(hty t ht).1.kind, (hty t ht).2⟩
  clear hr hty
  go_enter Try.func66, Try.ntmps66
  go_upto_region 1 with fail
  have ex : (w.alloc (.cells #[.int .u8 37, .int .i64 x, .int .i64 y, .slice ao na ca] 84)).heap.size = w.heap.size + 1 := World.size_alloc _ _
  generalize w.alloc (.cells #[.int .u8 37, .int .i64 x, .int .i64 y, .slice ao na ca] 84) = wx at *
  have o0 := Own.new wx zEff 103
  have bn := new_below wx (.cells zEff 103)
  have ox1 := ox.below bn
  have b0 := bx.trans (bn.mono bx.size)
  have e1 : (wx.alloc (.cells zEff 103)).heap.size = w.heap.size + 2 := by rw [World.size_alloc, ex]
  rw [ex] at o0
  clear ex bx bn ox
  generalize wx.alloc (.cells zEff 103) = w1 at *
  obtain ⟨x0, x1, x2, x3, xf⟩ := own4 ox1
  have oK := Own.new w1 #[.int .u8 6] 5
  have bK := new_below w1 (.cells #[.int .u8 6] 5)
  have hKs : KsAt (w1.alloc (.cells #[.int .u8 6] 5)) w1.heap.size [6] := by
    refine ⟨by simp, by simp, fun i hi => ?_⟩
    simp only [List.length_cons, List.length_nil] at hi
    obtain rfl : i = 0 := by omega
    exact oK.cell 0
  have bk := b0.trans (bK.mono b0.size)
  have hF := find_as (c := c) (kc := 1) (HTY.out _ bk) hn (by omega) (fun t ht => (HK.out t ht).1) x h0 h1 hKs (kn := 1) rfl
  have oxk := ox1.below bK
  have o0k := o0.below bK
  have E1 : Hid (w1.heap.size = w.heap.size + 2) := e1
  have HN : Hid (n = tys.length) := hn
  clear oK bK hKs ox1 o0 b0 e1 hn hm
  go_wp2_with fail
  refine hF.mono ?_
  rintro e w2 ⟨hq, b2⟩
  have oxl := oxk.below b2
  have o0l := o0k.below b2
  have bl := bk.trans (b2.mono bk.size)
  clear hF oxk o0k bk b2 x0 x1 x2 x3 xf
  obtain ⟨x0, x1, x2, x3, xf⟩ := own4 oxl
  cases hf : fnd tys x [6] with
  | none =>
    rw [hf] at hq
    subst hq
    obtain rfl : none = R := by rw [← HR.out]; unfold recM; rw [hf]
    have o0a := o0l.alloc (.cells zTyA 36)
    have bla := bl.alloc bl.size (.cells zTyA 36)
    clear HR hf oxl o0l bl h0 h1 g0 g1
    go_upto_region 2 with fail
    clear x0 x1 x2 x3 xf
    generalize w2.alloc (.cells zTyA 36) = w3 at *
    go_wp2_with (refine wpList_put rfl 103 (.tmp 4) (.tmp 19) rfl rfl (w.heap.size + 1) 0 rfl rfl o0a infoE rfl (by simp) rfl ?_; intro w5 o5 g5)
    refine bodyPost_cell2 (g := w.heap.size + 1) (t := 103) rfl rfl rfl o5 Try.underlying103 rfl (by kernel_rfl) ?_
    exact ⟨⟨_, _, _, _, _, _, rfl⟩, bla.grown g5 bla.size (fun k e => by cases e; omega)⟩
  | some t =>
    rw [hf] at hq
    subst hq
    have hmem : t ∈ tys := by
      unfold fnd at hf
      split at hf
      · cases hf
      · split at hf
        · cases hf; have := HN.out; exact getD_in (by omega)
        · cases hf
    have oT := Own.new w2 (tyA t) 36
    have oxa := oxl.alloc (.cells (tyA t) 36)
    have o0a := o0l.alloc (.cells (tyA t) 36)
    have bla := bl.alloc bl.size (.cells (tyA t) 36)
    have hg2 : w.heap.size + 2 ≤ w2.heap.size := by
      have := oxl.lt
      have := o0l.lt
      omega
    have hTI : ∀ W, Below w.heap.size w W → TyIn W t := HTI.out t hmem
    have hTl : t.t.fields.length ≤ 100000 := (HK.out t hmem).2
    have HRR : Hid (recM tys 37 x y = R) := HR
    unfold recM at HR
    rw [hf] at HR
    have HR' : Hid (recT t 37 x y = R) := HR
    clear HR HRR hf oxl o0l x0 x1 x2 x3 xf HTY HTI HK
    go_upto_region 2 with fail
    generalize hg6 : w2.heap.size = g6 at *
    generalize w2.alloc (.cells (tyA t) 36) = w3 at *
    obtain ⟨x0, x1, x2, x3, xf⟩ := own4 oxa
    obtain ⟨t0, t1, t2, t3, t4, tf⟩ := own5' oT
    by_cases hy : y < (t.t.fields.length : Int)
    · have hin : y.toNat < t.t.fields.length := by omega
      obtain ⟨f, hfi⟩ : ∃ f, t.t.fields.getD y.toNat zFl = f := ⟨_, rfl⟩
      obtain ⟨ft, hft⟩ : ∃ ft, f.typ = ft := ⟨_, rfl⟩
      obtain rfl : some ([x], [ft]) = R := by rw [← HR'.out]; unfold recT; rw [if_neg (by decide), if_pos hy, hfi, hft]; rfl
      obtain ⟨b, off, hfa, f0, f1⟩ := flCells (hTI _ bla).row hin f hfi
      rw [hfa] at t2
      rw [hft] at f1
      clear HR' hfi hTI hTl
      go_upto_region 10 with fail
      clear f0 f1 t0 t1 t2 t3 t4 tf
      go_wp2_with fail
      refine (takeL (B := w.heap.size) bla.size [x] (by simp)).mono ?_
      rintro e w4 ⟨ta, tc, rfl, i2, k2⟩
      have o2 := o0a.below (k2.mono (Nat.le_refl _))
      have b3 := bla.trans (k2.mono bla.size)
      clear x0 x1 x2 x3 xf o0a bla k2 oT oxa
      go_wp2_with fail
      refine (putL (B := w.heap.size) b3.size i2 [ft] (by simp)).mono ?_
      rintro e w5 ⟨pa, pc, rfl, i3, j3, k3⟩
      have o3 := o2.below (k3.mono (Nat.le_refl _))
      have b5 := b3.trans (k3.mono b3.size)
      clear o2 b3 k3 i2
      go_wp2_with (refine wpList_put rfl 103 (.tmp 4) (.tmp 53) rfl rfl (w.heap.size + 1) 0 rfl rfl o3 infoE rfl (by simp) rfl ?_; intro w6 o6 g6)
      refine bodyPost_cell2 (g := w.heap.size + 1) (t := 103) rfl rfl rfl o6 Try.underlying103 rfl (by kernel_rfl) ?_
      exact ⟨⟨_, _, _, _, rfl, i3.grown g6 o3 (by decide), j3.grown g6 o3 (by decide)⟩, b5.grown g6 b5.size (fun k e => by cases e; omega)⟩
    · obtain rfl : none = R := by rw [← HR'.out]; unfold recT; rw [if_neg (by decide), if_neg hy]
      clear HR' hTI hTl
      go_upto_region 7 with fail
      clear t0 t1 t2 t3 t4 tf x0 x1 x2 x3 xf
      go_wp2_with (refine wpList_put rfl 103 (.tmp 4) (.tmp 36) rfl rfl (w.heap.size + 1) 0 rfl rfl o0a infoE rfl (by simp) rfl ?_; intro w5 o5 g5)
      refine bodyPost_cell2 (g := w.heap.size + 1) (t := 103) rfl rfl rfl o5 Try.underlying103 rfl (by kernel_rfl) ?_
      exact ⟨⟨_, _, _, _, _, _, rfl⟩, bla.grown g5 bla.size (fun k e => by cases e; omega)⟩
set_option maxHeartbeats 4000000 in
set_option maxRecDepth 100000 in
theorem ofRecord38 {w : World} {a : Option Addr} {n c : Nat} {tys : List TyP} (hr : RowAt w a 5 tys.length (tyF tys)) (hn : n = tys.length) (hm : n ≤ 100000) (hty : ∀ t ∈ tys, TyIn w t ∧ t.t.fields.length ≤ 100000) (x y : Int) (h0 : 0 ≤ x) (h1 : x ≤ 65535) (g0 : 0 ≤ y) (g1 : y ≤ 65535) (ao : Option Addr) (na ca : Nat) :
    Calls Try.prog 66 #[.agg #[.int .u8 38, .int .i64 x, .int .i64 y, .slice ao na ca], .slice a n c] w (OutRet w (recM tys 38 x y)) := by
  have ox := Own.new w #[.int .u8 38, .int .i64 x, .int .i64 y, .slice ao na ca] 84
  have bx := new_below w (.cells #[.int .u8 38, .int .i64 x, .int .i64 y, .slice ao na ca] 84)
  obtain ⟨R, HR⟩ : ∃ R, Hid (recM tys 38 x y = R) := ⟨_, rfl⟩
  rw [HR.out]
  have HTY : Hid (∀ W, Below w.heap.size w W → RowAt W a 5 tys.length (tyF tys)) := fun W hb => hr.below hb
  have HTI : Hid (∀ t ∈ tys, ∀ W, Below w.heap.size w W → TyIn W t) := fun t ht W hb => (hty t ht).1.below hb
  have HK : Hid (∀ t ∈ tys, t.t.kind < 256 ∧ t.t.fields.length ≤ 100000) := fun t ht => ⟨(hty t ht).1.kind, (hty t ht).2⟩
  clear hr hty
  go_enter Try.func66, Try.ntmps66
  go_upto_region 1 with fail
  have ex : (w.alloc (.cells #[.int .u8 38, .int .i64 x, .int .i64 y, .slice ao na ca] 84)).heap.size = w.heap.size + 1 := World.size_alloc _ _
  generalize w.alloc (.cells #[.int .u8 38, .int .i64 x, .int .i64 y, .slice ao na ca] 84) = wx at *
  have o0 := Own.new wx zEff 103
  have bn := new_below wx (.cells zEff 103)
  have ox1 := ox.below bn
  have b0 := bx.trans (bn.mono bx.size)
  have e1 : (wx.alloc (.cells zEff 103)).heap.size = w.heap.size + 2 := by rw [World.size_alloc, ex]
  rw [ex] at o0
  clear ex bx bn ox
  generalize wx.alloc (.cells zEff 103) = w1 at *
  obtain ⟨x0, x1, x2, x3, xf⟩ := own4 ox1
  have oK := Own.new w1 #[.int .u8 6] 5
  have bK := new_below w1 (.cells #[.int .u8 6] 5)
  have hKs : KsAt (w1.alloc (.cells #[.int .u8 6] 5)) w1.heap.size [6] := by
    refine ⟨by simp, by simp, fun i hi => ?_⟩
    simp only [List.length_cons, List.length_nil] at hi
    obtain rfl : i = 0 := by omega
    exact oK.cell 0
  have bk := b0.trans (bK.mono b0.size)
  have hF := find_as (c := c) (kc := 1) (HTY.out _ bk) hn (by omega) (fun t ht => (HK.out t ht).1) x h0 h1 hKs (kn := 1) rfl
  have oxk := ox1.below bK
  have o0k := o0.below bK
  have E1 : Hid (w1.heap.size = w.heap.size + 2) := e1
  have HN : Hid (n = tys.length) := hn
  clear oK bK hKs ox1 o0 b0 e1 hn hm
  go_wp2_with fail
  refine hF.mono ?_
  rintro e w2 ⟨hq, b2⟩
  have oxl := oxk.below b2
  have o0l := o0k.below b2
  have bl := bk.trans (b2.mono bk.size)
  clear hF oxk o0k bk b2 x0 x1 x2 x3 xf
  obtain ⟨x0, x1, x2, x3, xf⟩ := own4 oxl
  cases hf : fnd tys x [6] with
  | none =>
    rw [hf] at hq
    subst hq
    obtain rfl : none = R := by rw [← HR.out]; unfold recM; rw [hf]
    have o0a := o0l.alloc (.cells zTyA 36)
    have bla := bl.alloc bl.size (.cells zTyA 36)
    clear HR hf oxl o0l bl h0 h1 g0 g1
    go_upto_region 2 with fail
    clear x0 x1 x2 x3 xf
    generalize w2.alloc (.cells zTyA 36) = w3 at *
    go_wp2_with (refine wpList_put rfl 103 (.tmp 4) (.tmp 19) rfl rfl (w.heap.size + 1) 0 rfl rfl o0a infoE rfl (by simp) rfl ?_; intro w5 o5 g5)
    refine bodyPost_cell2 (g := w.heap.size + 1) (t := 103) rfl rfl rfl o5 Try.underlying103 rfl (by kernel_rfl) ?_
    exact ⟨⟨_, _, _, _, _, _, rfl⟩, bla.grown g5 bla.size (fun k e => by cases e; omega)⟩
  | some t =>
    rw [hf] at hq
    subst hq
    have hmem : t ∈ tys := by
      unfold fnd at hf
      split at hf
      · cases hf
      · split at hf
        · cases hf; have := HN.out; exact getD_in (by omega)
        · cases hf
    have oT := Own.new w2 (tyA t) 36
    have oxa := oxl.alloc (.cells (tyA t) 36)
    have o0a := o0l.alloc (.cells (tyA t) 36)
    have bla := bl.alloc bl.size (.cells (tyA t) 36)
    have hg2 : w.heap.size + 2 ≤ w2.heap.size := by
      have := oxl.lt
      have := o0l.lt
      omega
    have hTI : ∀ W, Below w.heap.size w W → TyIn W t := HTI.out t hmem
    have hTl : t.t.fields.length ≤ 100000 := (HK.out t hmem).2
    have HRR : Hid (recM tys 38 x y = R) := HR
    unfold recM at HR
    rw [hf] at HR
    have HR' : Hid (recT t 38 x y = R) := HR
    clear HR HRR hf oxl o0l x0 x1 x2 x3 xf HTY HTI HK
    go_upto_region 2 with fail
    generalize hg6 : w2.heap.size = g6 at *
    generalize w2.alloc (.cells (tyA t) 36) = w3 at *
    obtain ⟨x0, x1, x2, x3, xf⟩ := own4 oxa
    obtain ⟨t0, t1, t2, t3, t4, tf⟩ := own5' oT
    by_cases hy : y < (t.t.fields.length : Int)
    · have hin : y.toNat < t.t.fields.length := by omega
      obtain ⟨f, hfi⟩ : ∃ f, t.t.fields.getD y.toNat zFl = f := ⟨_, rfl⟩
      obtain ⟨ft, hft⟩ : ∃ ft, f.typ = ft := ⟨_, rfl⟩
      obtain rfl : some ([x, ft], []) = R := by rw [← HR'.out]; unfold recT; rw [if_neg (by decide), if_pos hy, hfi, hft]; rfl
      obtain ⟨b, off, hfa, f0, f1⟩ := flCells (hTI _ bla).row hin f hfi
      rw [hfa] at t2
      rw [hft] at f1
      clear HR' hfi hTI hTl
      go_upto_region 11 with fail
      clear f0 f1 t0 t1 t2 t3 t4 tf
      go_wp2_with fail
      refine (takeL (B := w.heap.size) bla.size [x, ft] (by simp)).mono ?_
      rintro e w4 ⟨ta, tc, rfl, i2, k2⟩
      have o3 := o0a.below (k2.mono (Nat.le_refl _))
      have b5 := bla.trans (k2.mono bla.size)
      clear x0 x1 x2 x3 xf o0a bla k2 oT oxa
      go_wp2_with (refine wpList_put rfl 103 (.tmp 4) (.tmp 58) rfl rfl (w.heap.size + 1) 0 rfl rfl o3 infoE rfl (by simp) rfl ?_; intro w6 o6 g6)
      refine bodyPost_cell2 (g := w.heap.size + 1) (t := 103) rfl rfl rfl o6 Try.underlying103 rfl (by kernel_rfl) ?_
      exact ⟨⟨_, _, _, _, rfl, i2.grown g6 o3 (by decide), IntNew.nil _ _⟩, b5.grown g6 b5.size (fun k e => by cases e; omega)⟩
    · obtain rfl : none = R := by rw [← HR'.out]; unfold recT; rw [if_neg (by decide), if_neg hy]
      clear HR' hTI hTl
      go_upto_region 7 with fail
      clear t0 t1 t2 t3 t4 tf x0 x1 x2 x3 xf
      go_wp2_with (refine wpList_put rfl 103 (.tmp 4) (.tmp 36) rfl rfl (w.heap.size + 1) 0 rfl rfl o0a infoE rfl (by simp) rfl ?_; intro w5 o5 g5)
      refine bodyPost_cell2 (g := w.heap.size + 1) (t := 103) rfl rfl rfl o5 Try.underlying103 rfl (by kernel_rfl) ?_
      exact ⟨⟨_, _, _, _, _, _, rfl⟩, bla.grown g5 bla.size (fun k e => by cases e; omega)⟩
end Go.Proofs.Ytibcakmodkbliaa
