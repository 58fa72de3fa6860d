/-
  THE DOCUMENT'S Takes: a list of one's own, the type of a number.
-/
import Derived.Test.YtjfdlphkmpkjdaaDoorJta
import Derived.Test.YtjfdlphkmpkjdaaDoorJml
namespace Go.Proofs.YtjfdlphkmpkjdaaDoor
open Go.RowKit
set_option linter.unusedVariables false

set_option maxHeartbeats 1000000 in
set_option maxRecDepth 100000 in
theorem rown_as {w : World} {a : Option Addr} {n c : Nat} {xs : List Int} (hl : RowAt w a 1 xs.length (inF xs)) (hn : n = xs.length) (hno : a = none → c = 0) (hm : n ≤ 1000000) :
    Calls Tryd.prog 24 #[.slice a n c] w fun e w' => ∃ v, e = .returned v ∧ IntNew w' w.heap.size v xs ∧ Below w.heap.size w w' := by
  have hR : n = 0 ∨ ∃ b off, a = some ⟨b, off, none⟩ ∧ ∀ j u, (intV xs)[j]? = some u → w.cell? ⟨b, off + j, none⟩ = some u := by
    rw [hn]
    exact hl.read (by rw [intV_length]; omega) (by omega) (fun i hi d hd => intV_get xs i hi d hd)
  have hl1 : (intV xs).length = n * 1 := by rw [intV_length, hn]; omega
  have HN : Hid (n = xs.length) := hn
  clear hl hn
  go_enter Tryd.func24, Tryd.ntmps24
  go_wp2_with (refine wpList_app0 okN (by rfl) (.tmp 4) (.tmp 5) (by rfl) (by rfl) a n c (intV xs) (by rfl) hl1 hR hno (intV_one xs) (by omega) ?_; intro a3 c3 wz q1 q2 q3; have hZ : IntNew wz w.heap.size (.slice a3 n c3) xs := ⟨HN.out ▸ q1, fun b e => by rw [q3 b e]; exact Nat.le_refl _⟩; clear q1 q3 hR)
  go_ret
  exact ⟨_, rfl, hZ, q2⟩
theorem own_put5c {w : World} {g : Nat} {t : TypeId} {a0 a1 a2 a3 a4 : Value} (h : Own w g #[a0, a1, a2, a3, a4] t) (b0 b1 b2 b3 b4 : Value) : Own (((((w.setCell ⟨g, 0, none⟩ b0).setCell ⟨g, 1, none⟩ b1).setCell ⟨g, 2, none⟩ b2).setCell ⟨g, 3, none⟩ b3).setCell ⟨g, 4, none⟩ b4) g #[b0, b1, b2, b3, b4] t := by
  have := (((((h.set 0 b0).set 1 b1).set 2 b2).set 3 b3).set 4 b4)
  simpa using this
theorem own_put5d {w : World} {g : Nat} {t : TypeId} {a0 a1 a2 a3 a4 : Value} (h : Own w g #[a0, a1, a2, a3, a4] t) (b0 b1 b2 b3 b4 : Value) : Own (((((w.setCell ⟨g, 0, none⟩ b0).setCell ⟨g, 1, none⟩ b1).setCell ⟨g, 2, none⟩ b2).setCell ⟨g, 3, none⟩ b3).setCell ⟨g, 4, none⟩ b4).drew g #[b0, b1, b2, b3, b4] t :=
  Own.drew (own_put5c h b0 b1 b2 b3 b4)
theorem below_drewd {B : Nat} {w w1 : World} (h : Below B w w1) : Below B w w1.drew := ⟨h.os, h.tape, h.output, h.size, h.block⟩
theorem below_sets5d {w w' : World} {g : Nat} (h : Below w.heap.size w w') (hg : w.heap.size ≤ g) (v0 v1 v2 v3 v4 : Value) : Below w.heap.size w (((((w'.setCell ⟨g, 0, none⟩ v0).setCell ⟨g, 1, none⟩ v1).setCell ⟨g, 2, none⟩ v2).setCell ⟨g, 3, none⟩ v3).setCell ⟨g, 4, none⟩ v4).drew :=
  below_drewd (((((h.setCell hg v0).setCell hg v1).setCell hg v2).setCell hg v3).setCell hg v4)
def typT (tys : List TyP) (x : Int) : Option TyP := if x < 16 ∨ (tys.length : Int) ≤ x - 16 then none else some (tys.getD (x - 16).toNat zTP)
theorem fnd_typ (tys : List TyP) (x : Int) (ks : List Nat) : fnd tys x ks = match typT tys x with
    | none => none
    | some t => if t.t.kind ∈ ks then some t else none := by
  unfold fnd typT
  by_cases h : x < 16 ∨ (tys.length : Int) ≤ x - 16
  · rw [if_pos h, if_pos h]
  · rw [if_neg h, if_neg h]
def TydRet (k1 k2 : Nat) (r : Option TyP) (w : World) (e : Ending) (w' : World) : Prop := (match r with | none => e = .returned (.tuple #[.agg zTyA, .bool false]) | some t => ∃ b : Bool, (b = true ↔ t.t.kind = k1 ∨ t.t.kind = k2) ∧ e = .returned (.tuple #[.agg (tyA t), .bool b])) ∧ Below w.heap.size w w'
set_option maxHeartbeats 2000000 in
set_option maxRecDepth 100000 in
theorem rtyped_as {w : World} {A : MoP} (hr : RowAt w A.ta 5 A.tys.length (tyF A.tys)) (hm : A.tys.length ≤ 100000) (hk : ∀ t ∈ A.tys, t.t.kind < 256) (x : Int) (h0 : 0 ≤ x) (h1 : x ≤ 65535) (k1 k2 : Nat) (hk1 : k1 < 256) (hk2 : k2 < 256) :
    Calls Tryd.prog 43 #[.agg A.cs, .int .i64 x, .int .u8 (k1 : Int), .int .u8 (k2 : Int)] w (TydRet k1 k2 (typT A.tys x) w) := by
  have oA := (Own.new w A.cs 29).alloc (.cells zTyA 57)
  have oZ := Own.new (w.alloc (.cells A.cs 29)) zTyA 57
  rw [World.size_alloc] at oZ
  have b0 : Below w.heap.size w ((w.alloc (.cells A.cs 29)).alloc (.cells zTyA 57)) := (new_below _ _).alloc (by simp) _
  have hr0 := hr.below b0
  obtain ⟨R, HR⟩ : ∃ R, Hid (TydRet k1 k2 (typT A.tys x) w = R) := ⟨_, rfl⟩
  rw [HR.out]
  unfold MoP.cs at *
  obtain ⟨n, hn⟩ : ∃ n, A.tys.length = n := ⟨_, rfl⟩
  have HN : Hid (A.tys.length = n) := hn
  rw [hn] at oA oZ b0 hr0 hm
  rw [hn]
  generalize A.txs.length = n2 at *
  generalize A.fns.length = n3 at *
  clear hr
  by_cases hlo : x < 16
  · have HX : Hid (typT A.tys x = none) := by unfold Hid typT; rw [if_pos (.inl hlo)]
    clear hr0 hk hm hn
    go_enter Tryd.func43, Tryd.ntmps43
    go_upto_region 1 with fail
    generalize (w.alloc (.cells #[.slice A.ta n A.tc, .slice A.sa n2 A.sc, .slice A.fa n3 A.fc] 29)).alloc (.cells zTyA 57) = w1 at *
    obtain ⟨x0, x1, x2, xf⟩ := own3 oA
    go_wp2_with (refine wpList_put rfl 57 (.tmp 8) (.tmp 23) rfl rfl (w.heap.size + 1) 0 rfl rfl oZ infoT rfl (by simp) rfl ?_; intro w5 o5 g5)
    refine bodyPost_cell2 (g := w.heap.size + 1) (t := 57) rfl rfl rfl o5 Tryd.underlying57 rfl (by kernel_rfl) ?_
    rw [← HR.out]
    unfold TydRet
    rw [HX.out]
    exact ⟨rfl, b0.grown g5 b0.size (fun k e => by cases e; omega)⟩
  · obtain ⟨y, hy⟩ : ∃ y : Int, x = y + 16 := ⟨x - 16, by omega⟩
    subst hy
    have hy0 : 0 ≤ y := by omega
    have hy6 : y ≤ 65535 := by omega
    by_cases hhi : (n : Int) ≤ y
    · have HX : Hid (typT A.tys (y + 16) = none) := by unfold Hid typT; rw [if_pos (.inr (by rw [HN.out]; omega))]
      clear hr0 hk hn hlo h0 h1 hm
      go_enter Tryd.func43, Tryd.ntmps43
      go_upto_region 1 with fail
      generalize (w.alloc (.cells #[.slice A.ta n A.tc, .slice A.sa n2 A.sc, .slice A.fa n3 A.fc] 29)).alloc (.cells zTyA 57) = w1 at *
      obtain ⟨x0, x1, x2, xf⟩ := own3 oA
      go_wp2_with (refine wpList_put rfl 57 (.tmp 8) (.tmp 23) rfl rfl (w.heap.size + 1) 0 rfl rfl oZ infoT rfl (by simp) rfl ?_; intro w5 o5 g5)
      refine bodyPost_cell2 (g := w.heap.size + 1) (t := 57) rfl rfl rfl o5 Tryd.underlying57 rfl (by kernel_rfl) ?_
      rw [← HR.out]
      unfold TydRet
      rw [HX.out]
      exact ⟨rfl, b0.grown g5 b0.size (fun k e => by cases e; omega)⟩
    · have hyn : y < (n : Int) := by omega
      have hin : y.toNat < A.tys.length := by omega
      obtain ⟨t, ht⟩ : ∃ t, A.tys.getD y.toNat zTP = t := ⟨_, rfl⟩
      have htk : t.t.kind < 256 := by rw [← ht]; exact hk _ (getD_in hin)
      have HX : Hid (typT A.tys (y + 16) = some t) := by
        unfold Hid typT
        rw [if_neg (by rw [HN.out]; omega), show y + 16 - 16 = y by omega, ht]
      obtain ⟨b, off, hta, c0, c1, c2, c3, c4⟩ := tyCells (tys := A.tys) (by rw [hn]; exact hr0) hin t ht
      clear hr0 hk hn hlo h0 h1 hm hhi hin ht
      rw [hta] at oA oZ b0 c0 c1 c2 c3 c4
      rw [hta]
      have HRR : Hid (∀ B : Bool, (B = true ↔ t.t.kind = k1 ∨ t.t.kind = k2) → ∀ W, Below w.heap.size w W → R (.returned (.tuple #[.agg (tyA t), .bool B])) W) := fun B HB W hb => by
        rw [← HR.out]
        unfold TydRet
        rw [HX.out]
        exact ⟨⟨B, HB, rfl⟩, hb⟩
      clear HX HN HR hta
      unfold tyA at HRR
      generalize t.t.kind = K at *
      generalize t.t.name = nm at *
      generalize t.t.fields.length = fl at *
      generalize t.t.elem = el at *
      generalize t.t.len = ln at *
      go_enter Tryd.func43, Tryd.ntmps43
      go_upto_region 1 with fail
      generalize (w.alloc (.cells #[.slice (some ⟨b, off, none⟩) n A.tc, .slice A.sa n2 A.sc, .slice A.fa n3 A.fc] 29)).alloc (.cells zTyA 57) = w1 at *
      obtain ⟨x0, x1, x2, xf⟩ := own3 oA
      have oT := Own.new w1 #[.int .u8 (K : Int), .string nm, .slice t.fa fl t.fc, .int .i64 el, .int .i64 ln] 57
      have oZ2 := oZ.alloc (.cells #[.int .u8 (K : Int), .string nm, .slice t.fa fl t.fc, .int .i64 el, .int .i64 ln] 57)
      have b2 := b0.alloc b0.size (.cells #[.int .u8 (K : Int), .string nm, .slice t.fa fl t.fc, .int .i64 el, .int .i64 ln] 57)
      have hlt := oZ.lt
      have hg : w.heap.size ≤ w.heap.size + 1 := by omega
      go_upto_region 5 with fail
      generalize w1.heap.size = g2 at *
      generalize w1.alloc (.cells #[.int .u8 (K : Int), .string nm, .slice t.fa fl t.fc, .int .i64 el, .int .i64 ln] 57) = w2 at *
      clear x0 x1 x2 xf c0 c1 c2 c3 c4 oA oZ b0
      have hne : ¬ g2 = w.heap.size + 1 := by omega
      have hne2 : ¬ w.heap.size + 1 = g2 := by omega
      obtain ⟨t0, t1, t2, t3, t4, tf⟩ := own5' oT
      obtain ⟨z0, z1, z2, z3, z4, zf⟩ := own5' oZ2
      clear oT
      by_cases hK1 : K = k1
      · subst hK1
        go_region
        go_wp2_with fail
        refine bodyPost_cell2 (g := w.heap.size + 1) (t := 57) rfl rfl rfl (own_put5d oZ2 _ _ _ _ _) Tryd.underlying57 rfl (by kernel_rfl) ?_
        exact HRR.out _ (by simp ) _ (below_sets5d b2 hg _ _ _ _ _)
      · have hK1i : ¬ (K : Int) = (k1 : Int) := by omega
        have hK1b : ((K : Int) == (k1 : Int)) = false := by simp; omega
        by_cases hK2 : K = k2
        · subst hK2
          go_region
          go_wp2_with fail
          refine bodyPost_cell2 (g := w.heap.size + 1) (t := 57) rfl rfl rfl (own_put5d oZ2 _ _ _ _ _) Tryd.underlying57 rfl (by kernel_rfl) ?_
          exact HRR.out _ (by simp) _ (below_sets5d b2 hg _ _ _ _ _)
        · have hK2i : ¬ (K : Int) = (k2 : Int) := by omega
          have hK2b : ((K : Int) == (k2 : Int)) = false := by simp; omega
          go_region
          go_wp2_with fail
          refine bodyPost_cell2 (g := w.heap.size + 1) (t := 57) rfl rfl rfl (own_put5d oZ2 _ _ _ _ _) Tryd.underlying57 rfl (by kernel_rfl) ?_
          exact HRR.out _ (by simp [hK1, hK2]) _ (below_sets5d b2 hg _ _ _ _ _)
end Go.Proofs.YtjfdlphkmpkjdaaDoor
