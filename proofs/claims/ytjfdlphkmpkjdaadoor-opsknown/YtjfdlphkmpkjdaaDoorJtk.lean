/-
  CONTRACT of ofRecord: by the op.
  CONTRACT of ofRecord: a new record.
-/
import Derived.Test.YtjfdlphkmpkjdaaDoorJtb
namespace Go.Proofs.YtjfdlphkmpkjdaaDoor
open Go.RowKit
set_option linter.unusedVariables false

def recT (t : TyP) (op : Nat) (x y : Int) : Option (List Int × List Int) := if op = 36 then some (t.t.fields.map Fl.typ, [x]) else if y < (t.t.fields.length : Int) then (if op = 37 then some ([x], [(t.t.fields.getD y.toNat zFl).typ]) else some ([x, (t.t.fields.getD y.toNat zFl).typ], [])) else none
def recM (tys : List TyP) (op : Nat) (x y : Int) : Option (List Int × List Int) := match fnd tys x [6] with
  | none => none
  | some t => recT t op x y
set_option maxHeartbeats 4000000 in
set_option maxRecDepth 100000 in
theorem ofRecord37 {w : World} {a : Option Addr} {n c : Nat} {tys : List TyP} (hr : RowAt w a 5 tys.length (tyF tys)) (hn : n = tys.length) (hm : n ≤ 100000) (hty : ∀ t ∈ tys, TyIn w t ∧ t.t.fields.length ≤ 100000) (x y : Int) (h0 : 0 ≤ x) (h1 : x ≤ 65535) (g0 : 0 ≤ y) (g1 : y ≤ 65535) (ao : Option Addr) (na ca : Nat) :
    Calls Tryd.prog 47 #[.agg #[.int .u8 37, .int .i64 x, .int .i64 y, .slice ao na ca], .slice a n c] w (OutRet w (recM tys 37 x y)) := by
  have ox := Own.new w #[.int .u8 37, .int .i64 x, .int .i64 y, .slice ao na ca] 24
  have bx := new_below w (.cells #[.int .u8 37, .int .i64 x, .int .i64 y, .slice ao na ca] 24)
  obtain ⟨R, HR⟩ : ∃ R, Hid (recM tys 37 x y = R) := ⟨_, rfl⟩
  rw [HR.out]
  have HTY : Hid (∀ W, Below w.heap.size w W → RowAt W a 5 tys.length (tyF tys)) := fun W hb => hr.below hb
  have HTI : Hid (∀ t ∈ tys, ∀ W, Below w.heap.size w W → TyIn W t) := fun t ht W hb => (hty t ht).1.below hb
  have HK : Hid (∀ t ∈ tys, t.t.kind < 256 ∧ t.t.fields.length ≤ 100000) := fun t ht => ⟨(hty t ht).1.kind, (hty t ht).2⟩
  clear hr hty
  go_enter Tryd.func47, Tryd.ntmps47
  go_upto_region 1 with fail
  have ex : (w.alloc (.cells #[.int .u8 37, .int .i64 x, .int .i64 y, .slice ao na ca] 24)).heap.size = w.heap.size + 1 := World.size_alloc _ _
  generalize w.alloc (.cells #[.int .u8 37, .int .i64 x, .int .i64 y, .slice ao na ca] 24) = wx at *
  have o0 := Own.new wx zEff 69
  have bn := new_below wx (.cells zEff 69)
  have ox1 := ox.below bn
  have b0 := bx.trans (bn.mono bx.size)
  have e1 : (wx.alloc (.cells zEff 69)).heap.size = w.heap.size + 2 := by rw [World.size_alloc, ex]
  rw [ex] at o0
  clear ex bx bn ox
  generalize wx.alloc (.cells zEff 69) = w1 at *
  obtain ⟨x0, x1, x2, x3, xf⟩ := own4 ox1
  have oK := Own.new w1 #[.int .u8 6] 5
  have bK := new_below w1 (.cells #[.int .u8 6] 5)
  have hKs : KsAt (w1.alloc (.cells #[.int .u8 6] 5)) w1.heap.size [6] := by
    refine ⟨by simp, by simp, fun i hi => ?_⟩
    simp only [List.length_cons, List.length_nil] at hi
    obtain rfl : i = 0 := by omega
    exact oK.cell 0
  have bk := b0.trans (bK.mono b0.size)
  have hF := find_as (c := c) (kc := 1) (HTY.out _ bk) hn (by omega) (fun t ht => (HK.out t ht).1) x h0 h1 hKs (kn := 1) rfl
  have oxk := ox1.below bK
  have o0k := o0.below bK
  have E1 : Hid (w1.heap.size = w.heap.size + 2) := e1
  have HN : Hid (n = tys.length) := hn
  clear oK bK hKs ox1 o0 b0 e1 hn hm
  go_wp2_with fail
  refine hF.mono ?_
  rintro e w2 ⟨hq, b2⟩
  have oxl := oxk.below b2
  have o0l := o0k.below b2
  have bl := bk.trans (b2.mono bk.size)
  clear hF oxk o0k bk b2 x0 x1 x2 x3 xf
  obtain ⟨x0, x1, x2, x3, xf⟩ := own4 oxl
  cases hf : fnd tys x [6] with
  | none =>
    rw [hf] at hq
    subst hq
    obtain rfl : none = R := by rw [← HR.out]; unfold recM; rw [hf]
    have o0a := o0l.alloc (.cells zTyA 57)
    have bla := bl.alloc bl.size (.cells zTyA 57)
    clear HR hf oxl o0l bl h0 h1 g0 g1
    go_upto_region 2 with fail
    clear x0 x1 x2 x3 xf
    generalize w2.alloc (.cells zTyA 57) = w3 at *
    go_wp2_with (refine wpList_put rfl 69 (.tmp 4) (.tmp 19) rfl rfl (w.heap.size + 1) 0 rfl rfl o0a infoE rfl (by simp) rfl ?_; intro w5 o5 g5)
    refine bodyPost_cell2 (g := w.heap.size + 1) (t := 69) rfl rfl rfl o5 Tryd.underlying69 rfl (by kernel_rfl) ?_
    exact ⟨⟨_, _, _, _, _, _, rfl⟩, bla.grown g5 bla.size (fun k e => by cases e; omega)⟩
  | some t =>
    rw [hf] at hq
    subst hq
    have hmem : t ∈ tys := by
      unfold fnd at hf
      split at hf
      · cases hf
      · split at hf
        · cases hf; have := HN.out; exact getD_in (by omega)
        · cases hf
    have oT := Own.new w2 (tyA t) 57
    have oxa := oxl.alloc (.cells (tyA t) 57)
    have o0a := o0l.alloc (.cells (tyA t) 57)
    have bla := bl.alloc bl.size (.cells (tyA t) 57)
    have hg2 : w.heap.size + 2 ≤ w2.heap.size := by
      have := oxl.lt
      have := o0l.lt
      omega
    have hTI : ∀ W, Below w.heap.size w W → TyIn W t := HTI.out t hmem
    have hTl : t.t.fields.length ≤ 100000 := (HK.out t hmem).2
    have HRR : Hid (recM tys 37 x y = R) := HR
    unfold recM at HR
    rw [hf] at HR
    have HR' : Hid (recT t 37 x y = R) := HR
    clear HR HRR hf oxl o0l x0 x1 x2 x3 xf HTY HTI HK
    go_upto_region 2 with fail
    generalize hg6 : w2.heap.size = g6 at *
    generalize w2.alloc (.cells (tyA t) 57) = w3 at *
    obtain ⟨x0, x1, x2, x3, xf⟩ := own4 oxa
    obtain ⟨t0, t1, t2, t3, t4, tf⟩ := own5' oT
    by_cases hy : y < (t.t.fields.length : Int)
    · have hin : y.toNat < t.t.fields.length := by omega
      obtain ⟨f, hfi⟩ : ∃ f, t.t.fields.getD y.toNat zFl = f := ⟨_, rfl⟩
      obtain ⟨ft, hft⟩ : ∃ ft, f.typ = ft := ⟨_, rfl⟩
      obtain rfl : some ([x], [ft]) = R := by rw [← HR'.out]; unfold recT; rw [if_neg (by decide), if_pos hy, hfi, hft]; rfl
      obtain ⟨b, off, hfa, f0, f1⟩ := flCells (hTI _ bla).row hin f hfi
      rw [hfa] at t2
      rw [hft] at f1
      clear HR' hfi hTI hTl
      go_upto_region 10 with fail
      clear f0 f1 t0 t1 t2 t3 t4 tf
      go_wp2_with fail
      refine (takeL (B := w.heap.size) bla.size [x] (by simp)).mono ?_
      rintro e w4 ⟨ta, tc, rfl, i2, k2⟩
      have o2 := o0a.below (k2.mono (Nat.le_refl _))
      have b3 := bla.trans (k2.mono bla.size)
      clear x0 x1 x2 x3 xf o0a bla k2 oT oxa
      go_wp2_with fail
      refine (putL (B := w.heap.size) b3.size i2 [ft] (by simp)).mono ?_
      rintro e w5 ⟨pa, pc, rfl, i3, j3, k3⟩
      have o3 := o2.below (k3.mono (Nat.le_refl _))
      have b5 := b3.trans (k3.mono b3.size)
      clear o2 b3 k3 i2
      go_wp2_with (refine wpList_put rfl 69 (.tmp 4) (.tmp 53) rfl rfl (w.heap.size + 1) 0 rfl rfl o3 infoE rfl (by simp) rfl ?_; intro w6 o6 g6)
      refine bodyPost_cell2 (g := w.heap.size + 1) (t := 69) rfl rfl rfl o6 Tryd.underlying69 rfl (by kernel_rfl) ?_
      exact ⟨⟨_, _, _, _, rfl, i3.grown g6 o3 (by decide), j3.grown g6 o3 (by decide)⟩, b5.grown g6 b5.size (fun k e => by cases e; omega)⟩
    · obtain rfl : none = R := by rw [← HR'.out]; unfold recT; rw [if_neg (by decide), if_neg hy]
      clear HR' hTI hTl
      go_upto_region 7 with fail
      clear t0 t1 t2 t3 t4 tf x0 x1 x2 x3 xf
      go_wp2_with (refine wpList_put rfl 69 (.tmp 4) (.tmp 36) rfl rfl (w.heap.size + 1) 0 rfl rfl o0a infoE rfl (by simp) rfl ?_; intro w5 o5 g5)
      refine bodyPost_cell2 (g := w.heap.size + 1) (t := 69) rfl rfl rfl o5 Tryd.underlying69 rfl (by kernel_rfl) ?_
      exact ⟨⟨_, _, _, _, _, _, rfl⟩, bla.grown g5 bla.size (fun k e => by cases e; omega)⟩
set_option maxHeartbeats 4000000 in
set_option maxRecDepth 100000 in
theorem ofRecord38 {w : World} {a : Option Addr} {n c : Nat} {tys : List TyP} (hr : RowAt w a 5 tys.length (tyF tys)) (hn : n = tys.length) (hm : n ≤ 100000) (hty : ∀ t ∈ tys, TyIn w t ∧ t.t.fields.length ≤ 100000) (x y : Int) (h0 : 0 ≤ x) (h1 : x ≤ 65535) (g0 : 0 ≤ y) (g1 : y ≤ 65535) (ao : Option Addr) (na ca : Nat) :
    Calls Tryd.prog 47 #[.agg #[.int .u8 38, .int .i64 x, .int .i64 y, .slice ao na ca], .slice a n c] w (OutRet w (recM tys 38 x y)) := by
  have ox := Own.new w #[.int .u8 38, .int .i64 x, .int .i64 y, .slice ao na ca] 24
  have bx := new_below w (.cells #[.int .u8 38, .int .i64 x, .int .i64 y, .slice ao na ca] 24)
  obtain ⟨R, HR⟩ : ∃ R, Hid (recM tys 38 x y = R) := ⟨_, rfl⟩
  rw [HR.out]
  have HTY : Hid (∀ W, Below w.heap.size w W → RowAt W a 5 tys.length (tyF tys)) := fun W hb => hr.below hb
  have HTI : Hid (∀ t ∈ tys, ∀ W, Below w.heap.size w W → TyIn W t) := fun t ht W hb => (hty t ht).1.below hb
  have HK : Hid (∀ t ∈ tys, t.t.kind < 256 ∧ t.t.fields.length ≤ 100000) := fun t ht => ⟨(hty t ht).1.kind, (hty t ht).2⟩
  clear hr hty
  go_enter Tryd.func47, Tryd.ntmps47
  go_upto_region 1 with fail
  have ex : (w.alloc (.cells #[.int .u8 38, .int .i64 x, .int .i64 y, .slice ao na ca] 24)).heap.size = w.heap.size + 1 := World.size_alloc _ _
  generalize w.alloc (.cells #[.int .u8 38, .int .i64 x, .int .i64 y, .slice ao na ca] 24) = wx at *
  have o0 := Own.new wx zEff 69
  have bn := new_below wx (.cells zEff 69)
  have ox1 := ox.below bn
  have b0 := bx.trans (bn.mono bx.size)
  have e1 : (wx.alloc (.cells zEff 69)).heap.size = w.heap.size + 2 := by rw [World.size_alloc, ex]
  rw [ex] at o0
  clear ex bx bn ox
  generalize wx.alloc (.cells zEff 69) = w1 at *
  obtain ⟨x0, x1, x2, x3, xf⟩ := own4 ox1
  have oK := Own.new w1 #[.int .u8 6] 5
  have bK := new_below w1 (.cells #[.int .u8 6] 5)
  have hKs : KsAt (w1.alloc (.cells #[.int .u8 6] 5)) w1.heap.size [6] := by
    refine ⟨by simp, by simp, fun i hi => ?_⟩
    simp only [List.length_cons, List.length_nil] at hi
    obtain rfl : i = 0 := by omega
    exact oK.cell 0
  have bk := b0.trans (bK.mono b0.size)
  have hF := find_as (c := c) (kc := 1) (HTY.out _ bk) hn (by omega) (fun t ht => (HK.out t ht).1) x h0 h1 hKs (kn := 1) rfl
  have oxk := ox1.below bK
  have o0k := o0.below bK
  have E1 : Hid (w1.heap.size = w.heap.size + 2) := e1
  have HN : Hid (n = tys.length) := hn
  clear oK bK hKs ox1 o0 b0 e1 hn hm
  go_wp2_with fail
  refine hF.mono ?_
  rintro e w2 ⟨hq, b2⟩
  have oxl := oxk.below b2
  have o0l := o0k.below b2
  have bl := bk.trans (b2.mono bk.size)
  clear hF oxk o0k bk b2 x0 x1 x2 x3 xf
  obtain ⟨x0, x1, x2, x3, xf⟩ := own4 oxl
  cases hf : fnd tys x [6] with
  | none =>
    rw [hf] at hq
    subst hq
    obtain rfl : none = R := by rw [← HR.out]; unfold recM; rw [hf]
    have o0a := o0l.alloc (.cells zTyA 57)
    have bla := bl.alloc bl.size (.cells zTyA 57)
    clear HR hf oxl o0l bl h0 h1 g0 g1
    go_upto_region 2 with fail
    clear x0 x1 x2 x3 xf
    generalize w2.alloc (.cells zTyA 57) = w3 at *
    go_wp2_with (refine wpList_put rfl 69 (.tmp 4) (.tmp 19) rfl rfl (w.heap.size + 1) 0 rfl rfl o0a infoE rfl (by simp) rfl ?_; intro w5 o5 g5)
    refine bodyPost_cell2 (g := w.heap.size + 1) (t := 69) rfl rfl rfl o5 Tryd.underlying69 rfl (by kernel_rfl) ?_
    exact ⟨⟨_, _, _, _, _, _, rfl⟩, bla.grown g5 bla.size (fun k e => by cases e; omega)⟩
  | some t =>
    rw [hf] at hq
    subst hq
    have hmem : t ∈ tys := by
      unfold fnd at hf
      split at hf
      · cases hf
      · split at hf
        · cases hf; have := HN.out; exact getD_in (by omega)
        · cases hf
    have oT := Own.new w2 (tyA t) 57
    have oxa := oxl.alloc (.cells (tyA t) 57)
    have o0a := o0l.alloc (.cells (tyA t) 57)
    have bla := bl.alloc bl.size (.cells (tyA t) 57)
    have hg2 : w.heap.size + 2 ≤ w2.heap.size := by
      have := oxl.lt
      have := o0l.lt
      omega
    have hTI : ∀ W, Below w.heap.size w W → TyIn W t := HTI.out t hmem
    have hTl : t.t.fields.length ≤ 100000 := (HK.out t hmem).2
    have HRR : Hid (recM tys 38 x y = R) := HR
    unfold recM at HR
    rw [hf] at HR
    have HR' : Hid (recT t 38 x y = R) := HR
    clear HR HRR hf oxl o0l x0 x1 x2 x3 xf HTY HTI HK
    go_upto_region 2 with fail
    generalize hg6 : w2.heap.size = g6 at *
    generalize w2.alloc (.cells (tyA t) 57) = w3 at *
    obtain ⟨x0, x1, x2, x3, xf⟩ := own4 oxa
    obtain ⟨t0, t1, t2, t3, t4, tf⟩ := own5' oT
    by_cases hy : y < (t.t.fields.length : Int)
    · have hin : y.toNat < t.t.fields.length := by omega
      obtain ⟨f, hfi⟩ : ∃ f, t.t.fields.getD y.toNat zFl = f := ⟨_, rfl⟩
      obtain ⟨ft, hft⟩ : ∃ ft, f.typ = ft := ⟨_, rfl⟩
      obtain rfl : some ([x, ft], []) = R := by rw [← HR'.out]; unfold recT; rw [if_neg (by decide), if_pos hy, hfi, hft]; rfl
      obtain ⟨b, off, hfa, f0, f1⟩ := flCells (hTI _ bla).row hin f hfi
      rw [hfa] at t2
      rw [hft] at f1
      clear HR' hfi hTI hTl
      go_upto_region 11 with fail
      clear f0 f1 t0 t1 t2 t3 t4 tf
      go_wp2_with fail
      refine (takeL (B := w.heap.size) bla.size [x, ft] (by simp)).mono ?_
      rintro e w4 ⟨ta, tc, rfl, i2, k2⟩
      have o3 := o0a.below (k2.mono (Nat.le_refl _))
      have b5 := bla.trans (k2.mono bla.size)
      clear x0 x1 x2 x3 xf o0a bla k2 oT oxa
      go_wp2_with (refine wpList_put rfl 69 (.tmp 4) (.tmp 58) rfl rfl (w.heap.size + 1) 0 rfl rfl o3 infoE rfl (by simp) rfl ?_; intro w6 o6 g6)
      refine bodyPost_cell2 (g := w.heap.size + 1) (t := 69) rfl rfl rfl o6 Tryd.underlying69 rfl (by kernel_rfl) ?_
      exact ⟨⟨_, _, _, _, rfl, i2.grown g6 o3 (by decide), IntNew.nil _ _⟩, b5.grown g6 b5.size (fun k e => by cases e; omega)⟩
    · obtain rfl : none = R := by rw [← HR'.out]; unfold recT; rw [if_neg (by decide), if_neg hy]
      clear HR' hTI hTl
      go_upto_region 7 with fail
      clear t0 t1 t2 t3 t4 tf x0 x1 x2 x3 xf
      go_wp2_with (refine wpList_put rfl 69 (.tmp 4) (.tmp 36) rfl rfl (w.heap.size + 1) 0 rfl rfl o0a infoE rfl (by simp) rfl ?_; intro w5 o5 g5)
      refine bodyPost_cell2 (g := w.heap.size + 1) (t := 69) rfl rfl rfl o5 Tryd.underlying69 rfl (by kernel_rfl) ?_
      exact ⟨⟨_, _, _, _, _, _, rfl⟩, bla.grown g5 bla.size (fun k e => by cases e; omega)⟩
end Go.Proofs.YtjfdlphkmpkjdaaDoor
namespace Go.Proofs.YtjfdlphkmpkjdaaDoor
open Go.RowKit
set_option linter.unusedVariables false

theorem IntNew.rowAt {w : World} {B : Nat} {a : Option Addr} {c : Nat} {L : List Int} (h : IntNew w B (.slice a L.length c) L) : RowAt w a 1 L.length (inF L) ∧ (a = none → c = 0) ∧ L.length ≤ c := by
  refine ⟨rw_rowAt h.row (Nat.le_refl _) (fun i hi d hd => intV_get L i hi d hd), ?_, ?_⟩
  · intro e
    rcases h.row.2 with ⟨e', _⟩ | ⟨g, cap, cur, e', _⟩
    · simp only [Value.slice.injEq] at e'; exact e'.2.2
    · simp only [Value.slice.injEq] at e'; rw [e] at e'; cases e'.1
  · obtain ⟨ao, cp, e, h1, _⟩ := h.row.shape
    cases e; exact h1
theorem takeI {W : World} {B : Nat} {a : Option Addr} {c : Nat} {L : List Int} (h : IntNew W B (.slice a L.length c) L) (hl : L.length ≤ 1000000) :
    Calls Tryd.prog 44 #[.slice a L.length c] W fun e w' => ∃ a' c', e = .returned (effV (.slice a' L.length c') (.slice none 0 0)) ∧ IntNew w' W.heap.size (.slice a' L.length c') L ∧ Below W.heap.size W w' := by
  obtain ⟨h1, h2, h3⟩ := h.rowAt
  refine (take_as h1 rfl h2 h3 hl).mono ?_
  rintro e w' ⟨v, rfl, i, k⟩
  obtain ⟨a', c', rfl⟩ := i.shape
  exact ⟨a', c', rfl, i, k⟩
set_option maxHeartbeats 4000000 in
set_option maxRecDepth 100000 in
theorem ofRecord36 {w : World} {a : Option Addr} {n c : Nat} {tys : List TyP} (hr : RowAt w a 5 tys.length (tyF tys)) (hn : n = tys.length) (hm : n ≤ 100000) (hty : ∀ t ∈ tys, TyIn w t ∧ t.t.fields.length ≤ 100000) (x y : Int) (h0 : 0 ≤ x) (h1 : x ≤ 65535) (g0 : 0 ≤ y) (g1 : y ≤ 65535) (ao : Option Addr) (na ca : Nat) :
    Calls Tryd.prog 47 #[.agg #[.int .u8 36, .int .i64 x, .int .i64 y, .slice ao na ca], .slice a n c] w (OutRet w (recM tys 36 x y)) := by
  have ox := Own.new w #[.int .u8 36, .int .i64 x, .int .i64 y, .slice ao na ca] 24
  have bx := new_below w (.cells #[.int .u8 36, .int .i64 x, .int .i64 y, .slice ao na ca] 24)
  obtain ⟨R, HR⟩ : ∃ R, Hid (recM tys 36 x y = R) := ⟨_, rfl⟩
  rw [HR.out]
  have HTY : Hid (∀ W, Below w.heap.size w W → RowAt W a 5 tys.length (tyF tys)) := fun W hb => hr.below hb
  have HTI : Hid (∀ t ∈ tys, ∀ W, Below w.heap.size w W → TyIn W t) := fun t ht W hb => (hty t ht).1.below hb
  have HK : Hid (∀ t ∈ tys, t.t.kind < 256 ∧ t.t.fields.length ≤ 100000) := fun t ht => ⟨(hty t ht).1.kind, (hty t ht).2⟩
  clear hr hty
  go_enter Tryd.func47, Tryd.ntmps47
  go_upto_region 1 with fail
  have ex : (w.alloc (.cells #[.int .u8 36, .int .i64 x, .int .i64 y, .slice ao na ca] 24)).heap.size = w.heap.size + 1 := World.size_alloc _ _
  generalize w.alloc (.cells #[.int .u8 36, .int .i64 x, .int .i64 y, .slice ao na ca] 24) = wx at *
  have o0 := Own.new wx zEff 69
  have bn := new_below wx (.cells zEff 69)
  have ox1 := ox.below bn
  have b0 := bx.trans (bn.mono bx.size)
  have e1 : (wx.alloc (.cells zEff 69)).heap.size = w.heap.size + 2 := by rw [World.size_alloc, ex]
  rw [ex] at o0
  clear ex bx bn ox
  generalize wx.alloc (.cells zEff 69) = w1 at *
  obtain ⟨x0, x1, x2, x3, xf⟩ := own4 ox1
  have oK := Own.new w1 #[.int .u8 6] 5
  have bK := new_below w1 (.cells #[.int .u8 6] 5)
  have hKs : KsAt (w1.alloc (.cells #[.int .u8 6] 5)) w1.heap.size [6] := by
    refine ⟨by simp, by simp, fun i hi => ?_⟩
    simp only [List.length_cons, List.length_nil] at hi
    obtain rfl : i = 0 := by omega
    exact oK.cell 0
  have bk := b0.trans (bK.mono b0.size)
  have hF := find_as (c := c) (kc := 1) (HTY.out _ bk) hn (by omega) (fun t ht => (HK.out t ht).1) x h0 h1 hKs (kn := 1) rfl
  have oxk := ox1.below bK
  have o0k := o0.below bK
  have E1 : Hid (w1.heap.size = w.heap.size + 2) := e1
  have HN : Hid (n = tys.length) := hn
  clear oK bK hKs ox1 o0 b0 e1 hn hm
  go_wp2_with fail
  refine hF.mono ?_
  rintro e w2 ⟨hq, b2⟩
  have oxl := oxk.below b2
  have o0l := o0k.below b2
  have bl := bk.trans (b2.mono bk.size)
  clear hF oxk o0k bk b2 x0 x1 x2 x3 xf
  obtain ⟨x0, x1, x2, x3, xf⟩ := own4 oxl
  cases hf : fnd tys x [6] with
  | none =>
    rw [hf] at hq
    subst hq
    obtain rfl : none = R := by rw [← HR.out]; unfold recM; rw [hf]
    have o0a := o0l.alloc (.cells zTyA 57)
    have bla := bl.alloc bl.size (.cells zTyA 57)
    clear HR hf oxl o0l bl h0 h1 g0 g1
    go_upto_region 2 with fail
    clear x0 x1 x2 x3 xf
    generalize w2.alloc (.cells zTyA 57) = w3 at *
    go_wp2_with (refine wpList_put rfl 69 (.tmp 4) (.tmp 19) rfl rfl (w.heap.size + 1) 0 rfl rfl o0a infoE rfl (by simp) rfl ?_; intro w5 o5 g5)
    refine bodyPost_cell2 (g := w.heap.size + 1) (t := 69) rfl rfl rfl o5 Tryd.underlying69 rfl (by kernel_rfl) ?_
    exact ⟨⟨_, _, _, _, _, _, rfl⟩, bla.grown g5 bla.size (fun k e => by cases e; omega)⟩
  | some t =>
    rw [hf] at hq
    subst hq
    have hmem : t ∈ tys := by
      unfold fnd at hf
      split at hf
      · cases hf
      · split at hf
        · cases hf; have := HN.out; exact getD_in (by omega)
        · cases hf
    have oT := Own.new w2 (tyA t) 57
    have oxa := oxl.alloc (.cells (tyA t) 57)
    have o0a := o0l.alloc (.cells (tyA t) 57)
    have bla := bl.alloc bl.size (.cells (tyA t) 57)
    have hg2 : w.heap.size + 2 ≤ w2.heap.size := by
      have := oxl.lt
      have := o0l.lt
      omega
    have hTI : ∀ W, Below w.heap.size w W → TyIn W t := HTI.out t hmem
    have hTl : t.t.fields.length ≤ 100000 := (HK.out t hmem).2
    have HRR : Hid (recM tys 36 x y = R) := HR
    unfold recM at HR
    rw [hf] at HR
    have HR' : Hid (recT t 36 x y = R) := HR
    clear HR HRR hf oxl o0l x0 x1 x2 x3 xf HTY HTI HK
    go_upto_region 2 with fail
    generalize hg6 : w2.heap.size = g6 at *
    generalize w2.alloc (.cells (tyA t) 57) = w3 at *
    obtain ⟨x0, x1, x2, x3, xf⟩ := own4 oxa
    obtain ⟨t0, t1, t2, t3, t4, tf⟩ := own5' oT
    obtain rfl : some (t.t.fields.map Fl.typ, [x]) = R := by rw [← HR'.out]; rfl
    clear HR'
    have HFT : Hid (∀ W, Below w.heap.size w W → Calls Tryd.prog 71 #[.agg (tyA t)] W fun e w' => ∃ v, e = .returned v ∧ IntNew w' W.heap.size v (t.t.fields.map Fl.typ) ∧ Below W.heap.size W w') := fun W hb => fieldTypes_as (hTI W hb) (by omega)
    have HL : Hid ((t.t.fields.map Fl.typ).length ≤ 1000000) := by rw [Hid, List.length_map]; omega
    clear hTI hTl
    generalize t.t.fields.map Fl.typ = L at *
    go_upto_region 5 with fail
    have ne1 : ¬ w.heap.size + 1 = g6 := by have := E1.out; omega
    have ne2 : ¬ g6 = w.heap.size + 1 := by omega
    have ne3 : ¬ w.heap.size = w.heap.size + 1 := by omega
    have ne4 : ¬ w.heap.size + 1 = w.heap.size := by omega
    have oT0 := oT
    have oxa0 := oxa
    go_region_held3 (fun w' => (w'.cell? ⟨g6, 0, none⟩ = some (.int .u8 (t.t.kind : Int)) ∧ w'.cell? ⟨g6, 1, none⟩ = some (.string t.t.name) ∧ w'.cell? ⟨g6, 2, none⟩ = some (.slice t.fa t.t.fields.length t.fc) ∧ w'.cell? ⟨g6, 3, none⟩ = some (.int .i64 t.t.elem) ∧ w'.cell? ⟨g6, 4, none⟩ = some (.int .i64 t.t.len)) ∧ w'.cell? ⟨w.heap.size, 1, none⟩ = some (.int .i64 x)) (go_keep)
      (first
        | (have hz := B5; clear hz; go_at_call 45; refine (put_as (B := w.heap.size) (tv := .slice a5 L.length c5) (T := L) (c := 1) (n := 1) (xs := [x]) (by first | exact s5 | exact Nat.le_trans s5 (new_below _ _).size) (by first | exact i5 | exact i5.below (new_below _ _)) (by first | exact rowP W5 [x] | exact (rowP W4 [x]).below k5 | exact ((rowA w3 [x]).below k4).below k5) rfl (fun e => by cases e) (Nat.le_refl _) (by omega)).mono ?_; rintro en W6 ⟨pv, rfl, i6, j6, k6⟩; obtain ⟨a6, c6, rfl⟩ := j6.shape; have B6 : Below w3.heap.size w3 W6 := (by first | exact B5.trans (k6.mono B5.size) | exact (B5.alloc B5.size _).trans (k6.mono (B5.alloc B5.size _).size)); obtain ⟨u0, u1, u2, u3, u4, uf⟩ := own5' (oT0.below B6); obtain ⟨v0, v1, v2, v3, vf⟩ := own4 (oxa0.below B6); have or := o0a.below B6; obtain ⟨r0, r1, rf⟩ := own2 or)
        | (have hz := B4; clear hz; go_at_call 44; refine (takeI (L := L) (a := a4) (c := c4) (by first | exact i4 | exact i4.below (new_below _ _)) HL.out).mono ?_; rintro en W5 ⟨a5, c5, rfl, i5, k5⟩; have B5 : Below w3.heap.size w3 W5 := (by first | exact B4.trans (k5.mono B4.size) | exact (B4.alloc B4.size _).trans (k5.mono (B4.alloc B4.size _).size)); have s5 : w.heap.size ≤ W5.heap.size := Nat.le_trans bla.size B5.size; have i5 := i5.mono (show w.heap.size ≤ _ by first | exact Nat.le_trans bla.size B4.size | exact Nat.le_trans bla.size (B4.alloc B4.size _).size); obtain ⟨p0, p1, p2, p3, p4, pf⟩ := own5' (oT0.below B5); obtain ⟨q0, q1, q2, q3, qf⟩ := own4 (oxa0.below B5))
        | (go_at_call 71; refine (HFT.out _ (by first | exact below_drew1 bla | exact below_drew1 (bla.alloc bla.size _))).mono ?_; rintro en W4 ⟨v4, rfl, i4, k4⟩; obtain ⟨a4, c4, rfl⟩ := i4.shape; have B4 : Below w3.heap.size w3 W4 := (by first | exact (below_drew1 (Below.refl _ w3)).trans k4 | exact (belowA w3 _).trans (k4.mono (belowA w3 _).size)); obtain ⟨m0, m1, m2, m3, m4, mf⟩ := own5' (oT0.below B4); obtain ⟨n0, n1, n2, n3, nf⟩ := own4 (oxa0.below B4)))
    all_goals (
      have o5 := (or.set 0 (.slice a5 L.length c5)).set 1 (.slice a6 1 c6)
      have o6 : Own ((W6.setCell ⟨w.heap.size + 1, 0, none⟩ (.slice a5 L.length c5)).setCell ⟨w.heap.size + 1, 1, none⟩ (.slice a6 1 c6)) (w.heap.size + 1) #[.slice a5 L.length c5, .slice a6 1 c6] 69 := by simpa using o5
      go_wp2
      refine bodyPost_cell2 (g := w.heap.size + 1) (t := 69) rfl rfl rfl o6 Tryd.underlying69 rfl (by kernel_rfl) ?_
      exact ⟨⟨_, _, _, _, rfl, i6.set2 or (by decide) _ _, j6.set2 or (by decide) _ _⟩, below_set2 (bla.trans (B6.mono bla.size)) (by omega) _ _⟩)
end Go.Proofs.YtjfdlphkmpkjdaaDoor
