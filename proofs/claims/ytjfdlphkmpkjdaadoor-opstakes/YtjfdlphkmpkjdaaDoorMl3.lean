/-
  THE KIT'S LentModule, walked.
-/
import Derived.Test.YtjfdlphkmpkjdaaDoorMl2
import Derived.Test.YtjfdlphkmpkjdaaDoorJml
namespace Go.Proofs.YtjfdlphkmpkjdaaDoor
open Go.RowKit
set_option linter.unusedVariables false

def mkT : TyP := ⟨⟨0, markS, [], 0, 0⟩, none, 0⟩
def mkR : RoP := ⟨⟨markS, [], [], 0, 0, []⟩, none, 0, none, 0, none, 0⟩
theorem LentI.below {w w' : World} {g n c : Nat} {xs : List Int} (h : LentI w g n c xs) (hb : Below w.heap.size w w') : LentI w' g n c xs := Rw.belowR h hb
theorem LentQ.below {B : Nat} {W W' : World} {x : RoP} (h : LentQ B W x) (hb : Below W.heap.size W W') : LentQ B W' x := by
  obtain ⟨g1, p1, p2, p3⟩ := h.p
  obtain ⟨g2, r1, r2, r3⟩ := h.r
  obtain ⟨g3, c1, c2, c3⟩ := h.c
  exact ⟨⟨g1, p1, p2, p3.below hb⟩, ⟨g2, r1, r2, r3.below hb⟩, ⟨g3, c1, c2, c3.below hb⟩⟩
theorem LentQ.grown {B : Nat} {W W' : World} {x : RoP} (h : LentQ B W x) {e : TypeId} {size n : Nat} {u : Value} {xs : List Value} (hr : Rw W e size u n xs) (h1 : 3 ≠ e) (h2 : 5 ≠ e) (hg : W.grownBy W' u.ownBlock) : LentQ B W' x := by
  obtain ⟨g1, p1, p2, p3⟩ := h.p
  obtain ⟨g2, r1, r2, r3⟩ := h.r
  obtain ⟨g3, c1, c2, c3⟩ := h.c
  exact ⟨⟨g1, p1, p2, Rw.grown p3 hg (fun k q z => Rw.ne2 p3 hr h1 k q z.symm)⟩, ⟨g2, r1, r2, Rw.grown r3 hg (fun k q z => Rw.ne2 r3 hr h1 k q z.symm)⟩, ⟨g3, c1, c2, Rw.grown c3 hg (fun k q z => Rw.ne2 c3 hr h2 k q z.symm)⟩⟩
theorem LentQ.set {B : Nat} {W : World} {x : RoP} (h : LentQ B W x) {g : Nat} {cs : Array Value} {t : TypeId} (ho : Own W g cs t) (h1 : 3 ≠ t) (h2 : 5 ≠ t) (i : Nat) (u : Value) : LentQ B (W.setCell ⟨g, i, none⟩ u) x := by
  obtain ⟨g1, p1, p2, p3⟩ := h.p
  obtain ⟨g2, r1, r2, r3⟩ := h.r
  obtain ⟨g3, c1, c2, c3⟩ := h.c
  exact ⟨⟨g1, p1, p2, Rw.set p3 (Rw.ne p3 ho h1) i u⟩, ⟨g2, r1, r2, Rw.set r3 (Rw.ne r3 ho h1) i u⟩, ⟨g3, c1, c2, Rw.set c3 (Rw.ne c3 ho h2) i u⟩⟩
/-- The lent types and texts, beside the module that is made. -/
structure LmA (w : World) (mc : Array Value) (ta : Option Addr) (n1 tc : Nat) (qs : List TyP) (vs : Value) (xs : List Value) (nx : Nat) (nc : Array Value) (W : World) : Prop where
  s : LmS w mc nc W
  trow : Rw W 57 5 (.slice ta (n1 + 1) tc) (n1 + 1) (tyC (qs ++ [mkT]))
  tnew : ∃ g, w.heap.size ≤ g ∧ ta = some ⟨g, 0, none⟩
  each : ∀ x ∈ qs, LentF (w.heap.size + 3) W x
  xrow : Rw W 9 1 vs nx xs
  xnew : ∀ b, vs.ownBlock = some b → w.heap.size ≤ b
theorem LmA.below {w : World} {mc : Array Value} {ta : Option Addr} {n1 tc : Nat} {qs : List TyP} {vs : Value} {xs : List Value} {nx : Nat} {nc : Array Value} {W W' : World} (h : LmA w mc ta n1 tc qs vs xs nx nc W) (hb : Below W.heap.size W W') : LmA w mc ta n1 tc qs vs xs nx nc W' :=
  ⟨h.s.below hb, h.trow.belowR hb, h.tnew, fun x hx => (h.each x hx).below hb, h.xrow.belowR hb, h.xnew⟩
theorem LmA.set {w : World} {mc : Array Value} {ta : Option Addr} {n1 tc : Nat} {qs : List TyP} {vs : Value} {xs : List Value} {nx : Nat} {nc : Array Value} {W : World} (h : LmA w mc ta n1 tc qs vs xs nx nc W) (i : Nat) (u : Value) : LmA w mc ta n1 tc qs vs xs nx (nc.setIfInBounds i u) (W.setCell ⟨w.heap.size + 2, i, none⟩ u) :=
  ⟨h.s.set i u, h.trow.set (h.trow.ne h.s.o3 (by decide)) i u, h.tnew, fun x hx => ⟨(h.each x hx).ex, (h.each x hx).row.set ((h.each x hx).row.ne h.s.o3 (by decide)) i u⟩, h.xrow.set (h.xrow.ne h.s.o3 (by decide)) i u, h.xnew⟩
theorem LmA.grown {w : World} {mc : Array Value} {ta : Option Addr} {n1 tc : Nat} {qs : List TyP} {vs : Value} {xs : List Value} {nx : Nat} {nc : Array Value} {W W' : World} (h : LmA w mc ta n1 tc qs vs xs nx nc W) {n : Nat} {v : Value} {ys : List Value} (hr : Rw W 59 6 v n ys) (hg : W.grownBy W' v.ownBlock) (hn : ∀ b, v.ownBlock = some b → w.heap.size ≤ b) : LmA w mc ta n1 tc qs vs xs nx nc W' :=
  ⟨h.s.grown hr (by decide) hg hn, h.trow.grown hg (fun k q z => h.trow.ne2 hr (by decide) k q z.symm), h.tnew, fun x hx => ⟨(h.each x hx).ex, (h.each x hx).row.grown hg (fun k q z => (h.each x hx).row.ne2 hr (by decide) k q z.symm)⟩, h.xrow.grown hg (fun k q z => h.xrow.ne2 hr (by decide) k q z.symm), h.xnew⟩
theorem LmA.growX {w : World} {mc : Array Value} {ta : Option Addr} {n1 tc : Nat} {qs : List TyP} {vs : Value} {xs : List Value} {nx : Nat} {nc : Array Value} {W W' : World} (h : LmA w mc ta n1 tc qs vs xs nx nc W) (hg : W.grownBy W' vs.ownBlock) {vs' : Value} {xs' : List Value} {nx' : Nat} (hr' : Rw W' 9 1 vs' nx' xs') (hn : ∀ b, vs'.ownBlock = some b → w.heap.size ≤ b) : LmA w mc ta n1 tc qs vs' xs' nx' nc W' :=
  ⟨h.s.grown h.xrow (by decide) hg h.xnew, h.trow.grown hg (fun k q z => h.trow.ne2 h.xrow (by decide) k q z.symm), h.tnew, fun x hx => ⟨(h.each x hx).ex, (h.each x hx).row.grown hg (fun k q z => (h.each x hx).row.ne2 h.xrow (by decide) k q z.symm)⟩, hr', hn⟩
/-- The lent functions so far. -/
structure LmQ (w : World) (v : Value) (ps : List RoP) (W : World) : Prop where
  row : Rw W 59 6 v ps.length (roC ps)
  new : ∀ b, v.ownBlock = some b → w.heap.size ≤ b
  each : ∀ x ∈ ps, LentQ (w.heap.size + 3) W x
theorem LmQ.below {w : World} {v : Value} {ps : List RoP} {W W' : World} (h : LmQ w v ps W) (hb : Below W.heap.size W W') : LmQ w v ps W' := ⟨h.row.belowR hb, h.new, fun x hx => (h.each x hx).below hb⟩
/-- A module that is lent. -/
structure LentM (B : Nat) (W : World) (m : MoP) : Prop where
  trow : Rw W 57 5 (.slice m.ta (m.tys.length + 1) m.tc) (m.tys.length + 1) (tyC (m.tys ++ [mkT]))
  teach : ∀ x ∈ m.tys, LentF B W x
  xrow : Rw W 9 1 (.slice m.sa (m.txs.length + 1) m.sc) (m.txs.length + 1) (txC (m.txs ++ [markS]))
  frow : Rw W 59 6 (.slice m.fa (m.fns.length + 1) m.fc) (m.fns.length + 1) (roC (m.fns ++ [mkR]))
  feach : ∀ x ∈ m.fns, LentQ B W x
theorem LentM.set {B : Nat} {W : World} {m : MoP} (h : LentM B W m) {g : Nat} {cs : Array Value} (ho : Own W g cs 29) (i : Nat) (u : Value) : LentM B (W.setCell ⟨g, i, none⟩ u) m :=
  ⟨h.trow.set (h.trow.ne ho (by decide)) i u, fun x hx => ⟨(h.teach x hx).ex, (h.teach x hx).row.set ((h.teach x hx).row.ne ho (by decide)) i u⟩, h.xrow.set (h.xrow.ne ho (by decide)) i u, h.frow.set (h.frow.ne ho (by decide)) i u, fun x hx => (h.feach x hx).set ho (by decide) (by decide) i u⟩
theorem LentM.below {B : Nat} {W W' : World} {m : MoP} (h : LentM B W m) (hb : Below W.heap.size W W') : LentM B W' m :=
  ⟨h.trow.belowR hb, fun x hx => (h.teach x hx).below hb, h.xrow.belowR hb, h.frow.belowR hb, fun x hx => (h.feach x hx).below hb⟩
theorem LentF.mono {B B' : Nat} {W : World} {x : TyP} (h : LentF B W x) (hb : B' ≤ B) : LentF B' W x := by
  obtain ⟨g, h1, h2⟩ := h.ex
  exact ⟨⟨g, Nat.le_trans hb h1, h2⟩, h.row⟩
theorem LentQ.mono {B B' : Nat} {W : World} {x : RoP} (h : LentQ B W x) (hb : B' ≤ B) : LentQ B' W x := by
  obtain ⟨g1, p1, p2, p3⟩ := h.p
  obtain ⟨g2, r1, r2, r3⟩ := h.r
  obtain ⟨g3, c1, c2, c3⟩ := h.c
  exact ⟨⟨g1, Nat.le_trans hb p1, p2, p3⟩, ⟨g2, Nat.le_trans hb r1, r2, r3⟩, ⟨g3, Nat.le_trans hb c1, c2, c3⟩⟩
def LmR1 (w : World) (A : MoP) (n1 : Nat) (mc : Array Value) (g : Nat) (iv : Value) (wr : World) : Prop := ∃ (k : Nat) (ta : Option Addr) (tc : Nat) (qs : List TyP), k + g = n1 ∧ iv = .int .i64 (k : Int) ∧ qs.length = k ∧ qs.map TyP.t = (A.tys.take k).map TyP.t ∧ LmS w mc #[.slice ta k tc, .slice none 0 0, .slice none 0 0] wr ∧ LmT w (.slice ta k tc) qs wr
def LmR2 (w : World) (A : MoP) (n3 : Nat) (mc : Array Value) (g9 n1 c9 : Nat) (qs : List TyP) (g14 n2 c14 : Nat) (g : Nat) (iv : Value) (wr : World) : Prop := ∃ (k : Nat) (fa : Option Addr) (fc : Nat) (ps : List RoP), k + g = n3 ∧ iv = .int .i64 (k : Int) ∧ ps.length = k ∧ ps.map RoP.r = (A.fns.take k).map RoP.r ∧ LmA w mc (some ⟨g9, 0, none⟩) n1 c9 qs (.slice (some ⟨g14, 0, none⟩) (n2 + 1) c14) (txC (A.txs ++ [markS])) (n2 + 1) #[.slice (some ⟨g9, 0, none⟩) n1 c9, .slice (some ⟨g14, 0, none⟩) n2 c14, .slice fa k fc] wr ∧ LmQ w (.slice fa k fc) ps wr
set_option maxHeartbeats 8000000 in
set_option maxRecDepth 100000 in
theorem klentM_as {w : World} {A : MoP} (hA : MoIn w A) (hsz : A.mo.bulk ≤ 100000) :
    Calls Tryd.prog 8 #[.agg A.cs] w fun e w' => ∃ A' : MoP, e = .returned (.agg A'.cs) ∧ A'.mo = A.mo ∧ LentM w.heap.size w' A' ∧ (A'.tys.length + 1 ≤ A'.tc ∧ A'.txs.length + 1 ≤ A'.sc ∧ A'.fns.length + 1 ≤ A'.fc) ∧ Below w.heap.size w w' := by
  have HA : Hid (∀ W, Below w.heap.size w W → MoIn W A) := fun W q => hA.below q
  have HSM : Hid (Small A 100000) := small_of hsz
  have S0 : LmS w A.cs zM (((w.alloc (.cells A.cs 29)).alloc (.cells zM 29)).alloc (.cells zM 29)) := by
    refine ⟨((Own.new w _ _).alloc _).alloc _, ?_, ?_, ((new_below w _).alloc (by simp) _).alloc (by simp; omega) _⟩
    · have := (Own.new (w.alloc (.cells A.cs 29)) zM 29).alloc (.cells zM 29)
      rw [World.size_alloc] at this
      exact this
    · have := Own.new ((w.alloc (.cells A.cs 29)).alloc (.cells zM 29)) zM 29
      rw [World.size_alloc, World.size_alloc] at this
      exact this
  have hs0 : w.heap.size + 3 ≤ (((w.alloc (.cells A.cs 29)).alloc (.cells zM 29)).alloc (.cells zM 29)).heap.size := by rw [World.size_alloc, World.size_alloc, World.size_alloc]; omega
  unfold MoP.cs at *
  clear hA hsz
  obtain ⟨n1, HN1⟩ : ∃ n, Hid (A.tys.length = n) := ⟨_, rfl⟩
  obtain ⟨n2, HN2⟩ : ∃ n, Hid (A.txs.length = n) := ⟨_, rfl⟩
  obtain ⟨n3, HN3⟩ : ∃ n, Hid (A.fns.length = n) := ⟨_, rfl⟩
  obtain ⟨at1, AT1⟩ : ∃ n, Hid (A.ta = n) := ⟨_, rfl⟩
  obtain ⟨as1, AS1⟩ : ∃ n, Hid (A.sa = n) := ⟨_, rfl⟩
  obtain ⟨af1, AF1⟩ : ∃ n, Hid (A.fa = n) := ⟨_, rfl⟩
  have hn1 : n1 ≤ 100000 := by rw [← HN1.out]; exact HSM.out.ty
  have hn2 : n2 ≤ 100000 := by rw [← HN2.out]; exact HSM.out.tx
  have hn3 : n3 ≤ 100000 := by rw [← HN3.out]; exact HSM.out.fn
  rw [HN1.out, HN2.out, HN3.out, AT1.out, AS1.out, AF1.out] at S0 hs0
  rw [HN1.out, HN2.out, HN3.out, AT1.out, AS1.out, AF1.out]
  obtain ⟨ac1, AC1⟩ : ∃ n, Hid (A.tc = n) := ⟨_, rfl⟩
  obtain ⟨ac2, AC2⟩ : ∃ n, Hid (A.sc = n) := ⟨_, rfl⟩
  obtain ⟨ac3, AC3⟩ : ∃ n, Hid (A.fc = n) := ⟨_, rfl⟩
  rw [AC1.out, AC2.out, AC3.out] at S0 hs0
  rw [AC1.out, AC2.out, AC3.out]
  go_enter Tryd.func8, Tryd.ntmps8
  go_upto_block 0 with fail
  generalize ((w.alloc (.cells #[.slice at1 n1 ac1, .slice as1 n2 ac2, .slice af1 n3 ac3] 29)).alloc (.cells zM 29)).alloc (.cells zM 29) = w1 at *
  have HS0 : Hid (LmS w #[.slice at1 n1 ac1, .slice as1 n2 ac2, .slice af1 n3 ac3] zM w1) := S0
  have HW1 : Hid (w.heap.size + 3 ≤ w1.heap.size) := hs0
  clear S0 hs0
  go_cut [4, 5, 6] from 9 to 40 (fun _ _ _ wx => ∃ (ta : Option Addr) (tc : Nat) (qs : List TyP), qs.length = n1 ∧ qs.map TyP.t = A.tys.map TyP.t ∧ LmS w #[.slice at1 n1 ac1, .slice as1 n2 ac2, .slice af1 n3 ac3] #[.slice ta n1 tc, .slice none 0 0, .slice none 0 0] wx ∧ LmT w (.slice ta n1 tc) qs wx)
  case first =>
    go_wp2_with fail
    go_loopg [4] n1 (fun g iv wr => LmR1 w A n1 #[.slice at1 n1 ac1, .slice as1 n2 ac2, .slice af1 n3 ac3] g iv wr)
    case atStart => exact ⟨0, none, 0, [], by omega, rfl, rfl, by simp, HS0.out, ⟨World.ownsRow_nil _ _ _ _, by simp [Value.ownBlock], by simp⟩⟩
    case round =>
      obtain ⟨k, ta, tc, qs, hk, rfl, hql, hqm, hS, hT⟩ := hrel
      obtain ⟨m0, m1, m2⟩ := own3b hS.om
      have hk0 : (0 : Int) ≤ (k : Int) := by omega
      cases gk with
      | succ gq =>
        have hkx : k < A.tys.length := by rw [HN1.out]; omega
        obtain ⟨b1, o1, ha1, g1⟩ := (HA.out wr hS.bel).tyr.at hkx
        have hXi := (HA.out wr hS.bel).ty _ (getD_in (z := zTP) hkx)
        have hF1 := HSM.out.fl _ (getD_in (z := zTP) hkx)
        have hx0 : at1 = some ⟨b1, o1, none⟩ := by rw [← AT1.out]; exact ha1
        unfold tyF at g1
        have HM : Hid (∀ x' : TyP, x'.t = (A.tys.getD k zTP).t → (qs ++ [x']).map TyP.t = (A.tys.take (k + 1)).map TyP.t) := fun x' hx' => by
          rw [List.map_append, hqm, List.take_succ_eq_append_getElem hkx, List.map_append]
          simp [hx', List.getD, hkx]
        generalize A.tys.getD k zTP = X at *
        have d0 : wr.cell? ⟨b1, o1 + k * 5, none⟩ = some (.int .u8 (X.t.kind : Int)) := g1 0 (by omega)
        have d1 : wr.cell? ⟨b1, o1 + k * 5 + 1, none⟩ = some (.string X.t.name) := g1 1 (by omega)
        have d2 : wr.cell? ⟨b1, o1 + k * 5 + 2, none⟩ = some (.slice X.fa X.t.fields.length X.fc) := g1 2 (by omega)
        have d3 : wr.cell? ⟨b1, o1 + k * 5 + 3, none⟩ = some (.int .i64 X.t.elem) := g1 3 (by omega)
        have d4 : wr.cell? ⟨b1, o1 + k * 5 + 4, none⟩ = some (.int .i64 X.t.len) := g1 4 (by omega)
        have o5 := Own.new wr #[.int .u8 (X.t.kind : Int), .string X.t.name, .slice X.fa X.t.fields.length X.fc, .int .i64 X.t.elem, .int .i64 X.t.len] 57
        have B5 := new_below wr (.cells #[.int .u8 (X.t.kind : Int), .string X.t.name, .slice X.fa X.t.fields.length X.fc, .int .i64 X.t.elem, .int .i64 X.t.len] 57)
        have HR : Hid (X.t.fields.length = 0 ∨ ∃ b off, X.fa = some ⟨b, off, none⟩ ∧ ∀ j u, (flC X.t.fields)[j]? = some u → (wr.alloc (.cells #[.int .u8 (X.t.kind : Int), .string X.t.name, .slice X.fa X.t.fields.length X.fc, .int .i64 X.t.elem, .int .i64 X.t.len] 57)).cell? ⟨b, off + j, none⟩ = some u) := (hXi.row.below B5).read (flC_length _) (by omega) (fun i hi d hd => flC_get _ i hi d hd)
        have HNO : Hid (X.fa = none → X.fc = 0) := hXi.no
        have hki : (k : Int) < (n1 : Int) := by omega
        have HK : Hid (k + (gq + 1) = n1) := hk
        have HQL : Hid (qs.length = k) := hql
        have HTh : Hid (LmT w (.slice ta k tc) qs wr) := hT
        have HSh : Hid (LmS w #[.slice at1 n1 ac1, .slice as1 n2 ac2, .slice af1 n3 ac3] #[.slice ta k tc, .slice none 0 0, .slice none 0 0] wr) := hS
        rw [hx0] at m0
        clear g1 hXi ha1 hqm hS hT hk hql hx0
        obtain ⟨KI, HKI⟩ : ∃ KI : Int, Hid ((X.t.kind : Int) = KI) := ⟨_, rfl⟩
        rw [HKI.out] at d0 o5 B5 HR
        go_upto_region 7 with fail
        generalize wr.alloc (.cells #[.int .u8 KI, .string X.t.name, .slice X.fa X.t.fields.length X.fc, .int .i64 X.t.elem, .int .i64 X.t.len] 57) = w5 at *
        clear d0 d1 d2 d3 d4 m0 m1 m2
        obtain ⟨F, HF⟩ : ∃ F, Hid (X.t.fields.length = F) := ⟨_, rfl⟩
        rw [HF.out] at o5 HR hF1
        have HFL : Hid ((flC X.t.fields).length = F * 2) := by rw [Hid, flC_length, HF.out]
        rw [HF.out]
        obtain ⟨y0, y1, y2, y3, y4, yf⟩ := own5 o5
        go_upto_region 8 with (refine wpList_app0 okF (by rfl) (.tmp 21) (.tmp 23) (by rfl) (by rfl) X.fa F X.fc (flC X.t.fields) (by rfl) HFL.out HR.out HNO.out (flC_one _) (by omega) ?_; intro a6 c6 w6 q1 q2 q3)
        clear HR y0 y1 y2 y3 y4 yf
        have oM := Own.new w6 #[.string markS, .int .i64 0] 54
        have row6 := q1.alloc (.cells #[.string markS, .int .i64 0] 54)
        have B6 := B5.trans (q2.mono B5.size)
        have B6a := B6.alloc B6.size (.cells #[.string markS, .int .i64 0] 54)
        have o6 := (o5.below q2).alloc (.cells #[.string markS, .int .i64 0] 54)
        have HQ3 : Hid (∀ b, (Value.slice a6 F c6).ownBlock = some b → wr.heap.size ≤ b) := fun b q => by have := q3 b q; have := B5.size; omega
        have HG : Hid (∀ (a7 : Option Addr) (c7 : Nat) (w7 : World), Rw w7 54 2 (.slice a7 (F + 1) c7) (F + 1) (flC X.t.fields ++ [.string markS, .int .i64 0]) → (w6.alloc (.cells #[.string markS, .int .i64 0] 54)).grownBy w7 (Value.slice a6 F c6).ownBlock → ((Value.slice a7 (F + 1) c7).ownBlock = (Value.slice a6 F c6).ownBlock ∨ (Value.slice a7 (F + 1) c7).ownBlock = some (w6.alloc (.cells #[.string markS, .int .i64 0] 54)).heap.size) → ∃ g7, a7 = some ⟨g7, 0, none⟩ ∧ F + 1 ≤ c7 ∧ wr.heap.size ≤ g7 ∧ Rw w7 54 2 (.slice (some ⟨g7, 0, none⟩) (F + 1) c7) (F + 1) (flC (X.t.fields ++ [mkF])) ∧ Below wr.heap.size wr w7 ∧ Own w7 wr.heap.size #[.int .u8 KI, .string X.t.name, .slice X.fa F X.fc, .int .i64 X.t.elem, .int .i64 X.t.len] 57) := by
          intro a7 c7 w7 p1 p2 p3
          obtain ⟨g7, cap7, cur7, e7, -, hc7, -⟩ := p1.block (by omega)
          cases e7
          refine ⟨g7, rfl, hc7, ?_, by rw [flC_append]; exact p1, B6a.grown p2 B6a.size HQ3.out, o6.grown p2 (fun e => row6.ne o6 (by decide) e.symm)⟩
          rcases p3 with e | e
          · exact HQ3.out g7 e.symm
          · have := B6.size
            simp [Value.ownBlock] at e
            omega
        clear q1 q2 q3 B5 o5 B6 B6a o6 HQ3
        go_upto_region 9 with (refine wpList_app1 okF (by rfl) (.tmp 25) (.tmp 27) (by rfl) _ F (flC X.t.fields) (by rfl) row6 w6.heap.size [.string markS, .int .i64 0] (by rfl) oM rfl (by simp [Value.oneCell']) (by omega) ?_; intro a7 c7 w7 q1 q2 q3; obtain ⟨g7, ea, hc7, hg7, row7, B7, o7⟩ := HG.out a7 c7 w7 q1 q2 q3; clear q1 q2 q3 HG row6 oM)
        subst ea
        have e1 : (F : Int) ≤ (c7 : Int) := by omega
        have e2 : F ≤ c7 := by omega
        have e3 : ¬ c7 = 0 := by omega
        obtain ⟨y0, y1, y2, y3, y4, yf⟩ := own5 o7
        have o8 : Own (w7.setCell ⟨wr.heap.size, 2, none⟩ (.slice (some ⟨g7, 0, none⟩) F c7)) wr.heap.size #[.int .u8 KI, .string X.t.name, .slice (some ⟨g7, 0, none⟩) F c7, .int .i64 X.t.elem, .int .i64 X.t.len] 57 := by simpa using o7.set 2 (.slice (some ⟨g7, 0, none⟩) F c7)
        have B8 := B7.setCell (p := ⟨wr.heap.size, 2, none⟩) (Nat.le_refl _) (.slice (some ⟨g7, 0, none⟩) F c7)
        have row8 := row7.set (row7.ne o7 (by decide)) 2 (.slice (some ⟨g7, 0, none⟩) F c7)
        go_upto_region 10 with fail
        clear y0 y1 y2 y3 y4 yf o7 B7 row7
        generalize w7.setCell ⟨wr.heap.size, 2, none⟩ (.slice (some ⟨g7, 0, none⟩) F c7) = w8 at *
        obtain ⟨y0, y1, y2, y3, y4, yf⟩ := own5 o8
        have S8 := HSh.out.below B8
        have T8 := HTh.out.below B8
        have hws : w.heap.size + 3 ≤ wr.heap.size := by have h3 := HSh.out.o3.lt; omega
        have L8 : LentF (w.heap.size + 3) w8 ⟨X.t, some ⟨g7, 0, none⟩, c7⟩ := ⟨⟨g7, by omega, rfl⟩, by show Rw w8 54 2 (.slice (some ⟨g7, 0, none⟩) (X.t.fields.length + 1) c7) (X.t.fields.length + 1) _; rw [HF.out]; exact row8⟩
        have oE := Own.new w8 #[.int .u8 KI, .string X.t.name, .slice (some ⟨g7, 0, none⟩) F c7, .int .i64 X.t.elem, .int .i64 X.t.len] 57
        have rowE : Rw (w8.alloc (.cells #[.int .u8 KI, .string X.t.name, .slice (some ⟨g7, 0, none⟩) F c7, .int .i64 X.t.elem, .int .i64 X.t.len] 57)) 57 5 (.slice ta k tc) k (tyC qs) := by have := T8.row.alloc (.cells #[.int .u8 KI, .string X.t.name, .slice (some ⟨g7, 0, none⟩) F c7, .int .i64 X.t.elem, .int .i64 X.t.len] 57); rw [HQL.out] at this; exact this
        obtain ⟨z0, z1, z2, zf⟩ := own3 S8.o3
        have HG : Hid (∀ (a9 : Option Addr) (c9 : Nat) (w9 : World), Rw w9 57 5 (.slice a9 (k + 1) c9) (k + 1) (tyC qs ++ [.int .u8 KI, .string X.t.name, .slice (some ⟨g7, 0, none⟩) F c7, .int .i64 X.t.elem, .int .i64 X.t.len]) → (w8.alloc (.cells #[.int .u8 KI, .string X.t.name, .slice (some ⟨g7, 0, none⟩) F c7, .int .i64 X.t.elem, .int .i64 X.t.len] 57)).grownBy w9 (Value.slice ta k tc).ownBlock → ((Value.slice a9 (k + 1) c9).ownBlock = (Value.slice ta k tc).ownBlock ∨ (Value.slice a9 (k + 1) c9).ownBlock = some (w8.alloc (.cells #[.int .u8 KI, .string X.t.name, .slice (some ⟨g7, 0, none⟩) F c7, .int .i64 X.t.elem, .int .i64 X.t.len] 57)).heap.size) →
            LmR1 w A n1 #[.slice at1 n1 ac1, .slice as1 n2 ac2, .slice af1 n3 ac3] gq (.int .i64 ((k + 1 : Nat) : Int)) (w9.setCell ⟨w.heap.size + 2, 0, none⟩ (.slice a9 (k + 1) c9)) ∧ Own w9 (w.heap.size + 2) #[.slice ta k tc, .slice none 0 0, .slice none 0 0] 29) := by
          intro a9 c9 w9 r1 r2 r3
          have S9 := (S8.below (new_below w8 _)).grown rowE (by decide) r2 (fun b q => by have := T8.new b q; omega)
          have T9e : ∀ x ∈ qs ++ [(⟨X.t, some ⟨g7, 0, none⟩, c7⟩ : TyP)], LentF (w.heap.size + 3) w9 x := by
            intro x hx
            have hh : LentF (w.heap.size + 3) w8 x := by
              rcases List.mem_append.1 hx with hx | hx
              · exact T8.each x hx
              · rw [List.mem_singleton.1 hx]; exact L8
            have h2 := hh.below (new_below w8 (.cells #[.int .u8 KI, .string X.t.name, .slice (some ⟨g7, 0, none⟩) F c7, .int .i64 X.t.elem, .int .i64 X.t.len] 57))
            exact ⟨h2.ex, h2.row.grown r2 (fun k q z => h2.row.ne2 rowE (by decide) k q z.symm)⟩
          have T9 : LmT w (.slice a9 (k + 1) c9) (qs ++ [⟨X.t, some ⟨g7, 0, none⟩, c7⟩]) w9 := by
            refine ⟨?_, fun b q => ?_, T9e⟩
            · rw [tyC_append, List.length_append, HQL.out]
              have e : tyC [(⟨X.t, some ⟨g7, 0, none⟩, c7⟩ : TyP)] = [.int .u8 KI, .string X.t.name, .slice (some ⟨g7, 0, none⟩) F c7, .int .i64 X.t.elem, .int .i64 X.t.len] := by
                show [Value.int .u8 (X.t.kind : Int), .string X.t.name, .slice (some ⟨g7, 0, none⟩) X.t.fields.length c7, .int .i64 X.t.elem, .int .i64 X.t.len] = _
                rw [HKI.out, HF.out]
              rw [e]; exact r1
            · rcases r3 with r3 | r3
              · exact T8.new b (by rw [← r3]; exact q)
              · rw [r3] at q; cases q; have := B8.size; simp; omega
          exact ⟨⟨k + 1, a9, c9, qs ++ [⟨X.t, some ⟨g7, 0, none⟩, c7⟩], by have := HK.out; omega, rfl, by rw [List.length_append, HQL.out]; rfl, HM.out _ rfl, by simpa using S9.set 0 (.slice a9 (k + 1) c9), T9.set S9.o3 (by decide) (by decide) 0 _⟩, S9.o3⟩
        clear S8 T8 L8 row8 B8 HSh HTh HM HQL HNO HFL
        go_wp2_with (refine wpList_app1 okT (by rfl) (.tmp 36) (.tmp 38) (by rfl) _ k (tyC qs) (by rfl) rowE w8.heap.size [.int .u8 KI, .string X.t.name, .slice (some ⟨g7, 0, none⟩) F c7, .int .i64 X.t.elem, .int .i64 X.t.len] (by rfl) oE rfl (by simp [Value.oneCell']) (by omega) ?_; intro a9 c9 w9 q1 q2 q3; obtain ⟨RES, o9⟩ := HG.out a9 c9 w9 q1 q2 q3; clear q1 q2 q3 HG rowE oE y0 y1 y2 y3 y4 yf z0 z1 z2 zf; obtain ⟨z0, z1, z2, zf⟩ := own3 o9)
        go_roundg gq
        case measure => omega
        case rel => exact RES
      | zero =>
        obtain rfl : k = n1 := by omega
        go_wp2_with fail
        go_meet
        exact ⟨ta, tc, qs, hql, by rw [hqm, ← HN1.out, List.take_length], hS, hT⟩
  case rest =>
    obtain ⟨ta, tc, qs, hql, hqm, hS, hT⟩ := hcut
    clear HS0
    have HQL : Hid (qs.length = n1) := hql
    have HQM : Hid (qs.map TyP.t = A.tys.map TyP.t) := hqm
    clear hql hqm
    have oE := Own.new wc #[.int .u8 0, .string markS, .slice none 0 0, .int .i64 0, .int .i64 0] 57
    have rowE : Rw (wc.alloc (.cells #[.int .u8 0, .string markS, .slice none 0 0, .int .i64 0, .int .i64 0] 57)) 57 5 (.slice ta n1 tc) n1 (tyC qs) := by have := hT.row.alloc (.cells #[.int .u8 0, .string markS, .slice none 0 0, .int .i64 0, .int .i64 0] 57); rw [HQL.out] at this; exact this
    obtain ⟨z0, z1, z2, zf⟩ := own3 hS.o3
    have HG : Hid (∀ (a9 : Option Addr) (c9 : Nat) (w9 : World), Rw w9 57 5 (.slice a9 (n1 + 1) c9) (n1 + 1) (tyC qs ++ [.int .u8 0, .string markS, .slice none 0 0, .int .i64 0, .int .i64 0]) → (wc.alloc (.cells #[.int .u8 0, .string markS, .slice none 0 0, .int .i64 0, .int .i64 0] 57)).grownBy w9 (Value.slice ta n1 tc).ownBlock → ((Value.slice a9 (n1 + 1) c9).ownBlock = (Value.slice ta n1 tc).ownBlock ∨ (Value.slice a9 (n1 + 1) c9).ownBlock = some (wc.alloc (.cells #[.int .u8 0, .string markS, .slice none 0 0, .int .i64 0, .int .i64 0] 57)).heap.size) →
        ∃ g9, a9 = some ⟨g9, 0, none⟩ ∧ n1 + 1 ≤ c9 ∧ LmA w #[.slice at1 n1 ac1, .slice as1 n2 ac2, .slice af1 n3 ac3] (some ⟨g9, 0, none⟩) n1 c9 qs (.slice none 0 0) [] 0 #[.slice ta n1 tc, .slice none 0 0, .slice none 0 0] w9) := by
      intro a9 c9 w9 r1 r2 r3
      obtain ⟨g9, cap9, cur9, e9, -, hc9, -⟩ := r1.block (by omega)
      cases e9
      have hnw : ∀ b, (Value.slice ta n1 tc).ownBlock = some b → w.heap.size ≤ b := fun b q => by have := hT.new b q; omega
      refine ⟨g9, rfl, hc9, (hS.below (new_below wc _)).grown rowE (by decide) r2 hnw, by rw [tyC_append]; exact r1, ⟨g9, ?_, rfl⟩, fun x hx => ?_, World.ownsRow_nil _ _ _ _, by simp [Value.ownBlock]⟩
      · rcases r3 with e | e
        · exact hnw g9 e.symm
        · have := hS.bel.size
          simp [Value.ownBlock] at e
          omega
      · have h2 := (hT.each x hx).below (new_below wc (.cells #[.int .u8 0, .string markS, .slice none 0 0, .int .i64 0, .int .i64 0] 57))
        exact ⟨h2.ex, h2.row.grown r2 (fun k q z => h2.row.ne2 rowE (by decide) k q z.symm)⟩
    clear hS hT
    go_upto_region 12 with (refine wpList_app1 okT (by rfl) (.tmp 42) (.tmp 44) (by rfl) _ n1 (tyC qs) (by rfl) rowE wc.heap.size [.int .u8 0, .string markS, .slice none 0 0, .int .i64 0, .int .i64 0] (by rfl) oE rfl (by simp [Value.oneCell']) (by omega) ?_; intro a9 c9 w9 q1 q2 q3; obtain ⟨g9, ea, hc9, S9⟩ := HG.out a9 c9 w9 q1 q2 q3; clear q1 q2 q3 HG rowE oE z0 z1 z2 zf; obtain ⟨z0, z1, z2, zf⟩ := own3 S9.s.o3)
    subst ea
    clear z0 z1 z2 zf
    have S10 := S9.set 0 (.slice (some ⟨g9, 0, none⟩) (n1 + 1) c9)
    generalize w9.setCell ⟨w.heap.size + 2, 0, none⟩ (.slice (some ⟨g9, 0, none⟩) (n1 + 1) c9) = w10 at *
    have S10 : LmA w #[.slice at1 n1 ac1, .slice as1 n2 ac2, .slice af1 n3 ac3] (some ⟨g9, 0, none⟩) n1 c9 qs (.slice none 0 0) [] 0 #[.slice (some ⟨g9, 0, none⟩) (n1 + 1) c9, .slice none 0 0, .slice none 0 0] w10 := by simpa using S10
    clear S9
    obtain ⟨z0, z1, z2, zf⟩ := own3 S10.s.o3
    obtain ⟨m0, m1, m2⟩ := own3b S10.s.om
    have S11 := S10.set 0 (.slice (some ⟨g9, 0, none⟩) n1 c9)
    have e1 : (n1 : Int) ≤ (c9 : Int) := by omega
    have e2 : n1 ≤ c9 := by omega
    have e3 : ¬ c9 = 0 := by omega
    go_upto_region 13 with fail
    generalize w10.setCell ⟨w.heap.size + 2, 0, none⟩ (.slice (some ⟨g9, 0, none⟩) n1 c9) = w11 at *
    have S11 : LmA w #[.slice at1 n1 ac1, .slice as1 n2 ac2, .slice af1 n3 ac3] (some ⟨g9, 0, none⟩) n1 c9 qs (.slice none 0 0) [] 0 #[.slice (some ⟨g9, 0, none⟩) n1 c9, .slice none 0 0, .slice none 0 0] w11 := by simpa using S11
    clear z0 z1 z2 zf m0 m1 m2 S10 e1 e2 e3
    obtain ⟨z0, z1, z2, zf⟩ := own3 S11.s.o3
    obtain ⟨m0, m1, m2⟩ := own3b S11.s.om
    have HR : Hid (n2 = 0 ∨ ∃ b off, as1 = some ⟨b, off, none⟩ ∧ ∀ j u, (txC A.txs)[j]? = some u → w11.cell? ⟨b, off + j, none⟩ = some u) := by
      have := (HA.out w11 S11.s.bel).txr.read (txC_length _) (by omega) (fun i hi d hd => txC_get _ i hi d hd)
      rw [HN2.out, AS1.out] at this
      exact this
    have HNO : Hid (as1 = none → ac2 = 0) := by
      have := (HA.out w11 S11.s.bel).sno
      rw [AS1.out, AC2.out] at this
      exact this
    have HXL : Hid ((txC A.txs).length = n2 * 1) := by rw [Hid, txC_length, HN2.out]
    have HG : Hid (∀ (a12 : Option Addr) (c12 : Nat) (w12 : World), Rw w12 9 1 (.slice a12 n2 c12) n2 (txC A.txs) → Below w11.heap.size w11 w12 → (∀ b, (Value.slice a12 n2 c12).ownBlock = some b → b = w11.heap.size) → LmA w #[.slice at1 n1 ac1, .slice as1 n2 ac2, .slice af1 n3 ac3] (some ⟨g9, 0, none⟩) n1 c9 qs (.slice a12 n2 c12) (txC A.txs) n2 #[.slice (some ⟨g9, 0, none⟩) n1 c9, .slice none 0 0, .slice none 0 0] w12) := by
      intro a12 c12 w12 q1 q2 q3
      have h := S11.below q2
      exact ⟨h.s, h.trow, h.tnew, h.each, q1, fun b q => by rw [q3 b q]; exact S11.s.bel.size⟩
    go_upto_region 14 with (refine wpList_app0 okS (by rfl) (.tmp 55) (.tmp 57) (by rfl) (by rfl) as1 n2 ac2 (txC A.txs) (by rfl) HXL.out HR.out HNO.out (txC_one _) (by omega) ?_; intro a12 c12 w12 q1 q2 q3; have S12 := HG.out a12 c12 w12 q1 q2 q3; clear q1 q2 q3 HG z0 z1 z2 zf m0 m1 m2; obtain ⟨z0, z1, z2, zf⟩ := own3 S12.s.o3)
    clear HR HNO HXL S11 z0 z1 z2 zf
    have S13 := S12.set 1 (.slice a12 n2 c12)
    generalize w12.setCell ⟨w.heap.size + 2, 1, none⟩ (.slice a12 n2 c12) = w13 at *
    have S13 : LmA w #[.slice at1 n1 ac1, .slice as1 n2 ac2, .slice af1 n3 ac3] (some ⟨g9, 0, none⟩) n1 c9 qs (.slice a12 n2 c12) (txC A.txs) n2 #[.slice (some ⟨g9, 0, none⟩) n1 c9, .slice a12 n2 c12, .slice none 0 0] w13 := by simpa using S13
    clear S12
    obtain ⟨z0, z1, z2, zf⟩ := own3 S13.s.o3
    have oE := Own.new w13 #[.string markS] 9
    have rowE := S13.xrow.alloc (.cells #[.string markS] 9)
    have HG : Hid (∀ (a14 : Option Addr) (c14 : Nat) (w14 : World), Rw w14 9 1 (.slice a14 (n2 + 1) c14) (n2 + 1) (txC A.txs ++ [.string markS]) → (w13.alloc (.cells #[.string markS] 9)).grownBy w14 (Value.slice a12 n2 c12).ownBlock → ((Value.slice a14 (n2 + 1) c14).ownBlock = (Value.slice a12 n2 c12).ownBlock ∨ (Value.slice a14 (n2 + 1) c14).ownBlock = some (w13.alloc (.cells #[.string markS] 9)).heap.size) → ∃ g14, a14 = some ⟨g14, 0, none⟩ ∧ n2 + 1 ≤ c14 ∧ LmA w #[.slice at1 n1 ac1, .slice as1 n2 ac2, .slice af1 n3 ac3] (some ⟨g9, 0, none⟩) n1 c9 qs (.slice (some ⟨g14, 0, none⟩) (n2 + 1) c14) (txC (A.txs ++ [markS])) (n2 + 1) #[.slice (some ⟨g9, 0, none⟩) n1 c9, .slice a12 n2 c12, .slice none 0 0] w14) := by
      intro a14 c14 w14 r1 r2 r3
      obtain ⟨g14, cap14, cur14, e14, -, hc14, -⟩ := r1.block (by omega)
      cases e14
      refine ⟨g14, rfl, hc14, (S13.below (new_below w13 _)).growX r2 (by rw [txC_append]; exact r1) (fun b q => ?_)⟩
      rcases r3 with e | e
      · exact S13.xnew b (by rw [← e]; exact q)
      · rw [e] at q; cases q; have := S13.s.bel.size; simp; omega
    go_upto_region 15 with (refine wpList_app1 okS (by rfl) (.tmp 61) (.tmp 62) (by rfl) _ n2 (txC A.txs) (by rfl) rowE w13.heap.size [.string markS] (by rfl) oE rfl (by simp [Value.oneCell']) (by omega) ?_; intro a14 c14 w14 q1 q2 q3; obtain ⟨g14, ea, hc14, S14⟩ := HG.out a14 c14 w14 q1 q2 q3; clear q1 q2 q3 HG rowE oE z0 z1 z2 zf; obtain ⟨z0, z1, z2, zf⟩ := own3 S14.s.o3)
    subst ea
    clear S13 z0 z1 z2 zf
    have S15 := S14.set 1 (.slice (some ⟨g14, 0, none⟩) (n2 + 1) c14)
    generalize w14.setCell ⟨w.heap.size + 2, 1, none⟩ (.slice (some ⟨g14, 0, none⟩) (n2 + 1) c14) = w15 at *
    have S15 : LmA w #[.slice at1 n1 ac1, .slice as1 n2 ac2, .slice af1 n3 ac3] (some ⟨g9, 0, none⟩) n1 c9 qs (.slice (some ⟨g14, 0, none⟩) (n2 + 1) c14) (txC (A.txs ++ [markS])) (n2 + 1) #[.slice (some ⟨g9, 0, none⟩) n1 c9, .slice (some ⟨g14, 0, none⟩) (n2 + 1) c14, .slice none 0 0] w15 := by simpa using S15
    clear S14
    obtain ⟨z0, z1, z2, zf⟩ := own3 S15.s.o3
    obtain ⟨m0, m1, m2⟩ := own3b S15.s.om
    have e1 : (n2 : Int) ≤ (c14 : Int) := by omega
    have e2 : n2 ≤ c14 := by omega
    have e3 : ¬ c14 = 0 := by omega
    have S16 := S15.set 1 (.slice (some ⟨g14, 0, none⟩) n2 c14)
    go_upto_block 2 with fail
    generalize w15.setCell ⟨w.heap.size + 2, 1, none⟩ (.slice (some ⟨g14, 0, none⟩) n2 c14) = w16 at *
    have S16 : LmA w #[.slice at1 n1 ac1, .slice as1 n2 ac2, .slice af1 n3 ac3] (some ⟨g9, 0, none⟩) n1 c9 qs (.slice (some ⟨g14, 0, none⟩) (n2 + 1) c14) (txC (A.txs ++ [markS])) (n2 + 1) #[.slice (some ⟨g9, 0, none⟩) n1 c9, .slice (some ⟨g14, 0, none⟩) n2 c14, .slice none 0 0] w16 := by simpa using S16
    clear z0 z1 z2 zf m0 m1 m2 S15 e1 e2 e3
    have HS16 : Hid (LmA w #[.slice at1 n1 ac1, .slice as1 n2 ac2, .slice af1 n3 ac3] (some ⟨g9, 0, none⟩) n1 c9 qs (.slice (some ⟨g14, 0, none⟩) (n2 + 1) c14) (txC (A.txs ++ [markS])) (n2 + 1) #[.slice (some ⟨g9, 0, none⟩) n1 c9, .slice (some ⟨g14, 0, none⟩) n2 c14, .slice none 0 0] w16) := S16
    clear S16
    go_wp2_with fail
    go_loopg [7] n3 (fun g iv wr => LmR2 w A n3 #[.slice at1 n1 ac1, .slice as1 n2 ac2, .slice af1 n3 ac3] g9 n1 c9 qs g14 n2 c14 g iv wr)
    case atStart => exact ⟨0, none, 0, [], by omega, rfl, rfl, by simp, HS16.out, ⟨World.ownsRow_nil _ _ _ _, by simp [Value.ownBlock], by simp⟩⟩
    case round =>
      clear HS16
      obtain ⟨k, fa, fc, ps, hk, rfl, hql, hqm, hS, hT⟩ := hrel
      obtain ⟨m0, m1, m2⟩ := own3b hS.s.om
      have hk0 : (0 : Int) ≤ (k : Int) := by omega
      have HPL : Hid (ps.length = k) := hql
      cases gk with
      | succ gq =>
        have hkx : k < A.fns.length := by rw [HN3.out]; omega
        obtain ⟨b1, o1, ha1, g1⟩ := (HA.out wr hS.s.bel).fnr.at hkx
        have hXi := (HA.out wr hS.s.bel).fn _ (getD_in (z := zRP) hkx)
        have hF1 := HSM.out.ro _ (getD_in (z := zRP) hkx)
        have hx0 : af1 = some ⟨b1, o1, none⟩ := by rw [← AF1.out]; exact ha1
        unfold roF at g1
        have HM : Hid (∀ x' : RoP, x'.r = (A.fns.getD k zRP).r → (ps ++ [x']).map RoP.r = (A.fns.take (k + 1)).map RoP.r) := fun x' hx' => by
          rw [List.map_append, hqm, List.take_succ_eq_append_getElem hkx, List.map_append]
          simp [hx', List.getD, hkx]
        generalize A.fns.getD k zRP = X at *
        obtain ⟨PN, HPN⟩ : ∃ n, Hid (X.r.params.length = n) := ⟨_, rfl⟩
        obtain ⟨RN, HRN⟩ : ∃ n, Hid (X.r.results.length = n) := ⟨_, rfl⟩
        obtain ⟨CN, HCN⟩ : ∃ n, Hid (X.r.code.length = n) := ⟨_, rfl⟩
        have d0 : wr.cell? ⟨b1, o1 + k * 6, none⟩ = some (.string X.r.name) := g1 0 (by omega)
        have d1 : wr.cell? ⟨b1, o1 + k * 6 + 1, none⟩ = some (.slice X.pa PN X.pc) := by rw [← HPN.out]; exact g1 1 (by omega)
        have d2 : wr.cell? ⟨b1, o1 + k * 6 + 2, none⟩ = some (.slice X.ra RN X.rc) := by rw [← HRN.out]; exact g1 2 (by omega)
        have d3 : wr.cell? ⟨b1, o1 + k * 6 + 3, none⟩ = some (.int .i64 X.r.locals) := g1 3 (by omega)
        have d4 : wr.cell? ⟨b1, o1 + k * 6 + 4, none⟩ = some (.int .i64 X.r.stack) := g1 4 (by omega)
        have d5 : wr.cell? ⟨b1, o1 + k * 6 + 5, none⟩ = some (.slice X.ca CN X.cc) := by rw [← HCN.out]; exact g1 5 (by omega)
        have o5 := Own.new wr #[.string X.r.name, .slice X.pa PN X.pc, .slice X.ra RN X.rc, .int .i64 X.r.locals, .int .i64 X.r.stack, .slice X.ca CN X.cc] 59
        have B5 := new_below wr (.cells #[.string X.r.name, .slice X.pa PN X.pc, .slice X.ra RN X.rc, .int .i64 X.r.locals, .int .i64 X.r.stack, .slice X.ca CN X.cc] 59)
        have C1 : Hid (∀ W, Below wr.heap.size wr W → Calls Tryd.prog 21 #[.slice X.pa PN X.pc] W fun e w' => ∃ g c', e = .returned (.slice (some ⟨g, 0, none⟩) PN c') ∧ LentI w' g PN c' X.r.params ∧ PN + 3 ≤ c' ∧ W.heap.size ≤ g ∧ Below W.heap.size W w') := fun W q => klentI_as ((hXi.below q).params) HPN.out.symm hXi.pno (by rw [← HPN.out]; have := hF1.1; omega)
        have C2 : Hid (∀ W, Below wr.heap.size wr W → Calls Tryd.prog 21 #[.slice X.ra RN X.rc] W fun e w' => ∃ g c', e = .returned (.slice (some ⟨g, 0, none⟩) RN c') ∧ LentI w' g RN c' X.r.results ∧ RN + 3 ≤ c' ∧ W.heap.size ≤ g ∧ Below W.heap.size W w') := fun W q => klentI_as ((hXi.below q).results) HRN.out.symm hXi.rno (by rw [← HRN.out]; have := hF1.2.1; omega)
        have C3 : Hid (∀ W, Below wr.heap.size wr W → Calls Tryd.prog 22 #[.slice X.ca CN X.cc] W fun e w' => ∃ g c', e = .returned (.slice (some ⟨g, 0, none⟩) CN c') ∧ LentB w' g CN c' X.r.code ∧ W.heap.size ≤ g ∧ Below W.heap.size W w') := fun W q => klentB_as ((hXi.below q).code) HCN.out.symm hXi.cno (by rw [← HCN.out]; have := hF1.2.2; omega)
        have hki : (k : Int) < (n3 : Int) := by omega
        have HK : Hid (k + (gq + 1) = n3) := hk
        have HTh : Hid (LmQ w (.slice fa k fc) ps wr) := hT
        have HSh : Hid (LmA w #[.slice at1 n1 ac1, .slice as1 n2 ac2, .slice af1 n3 ac3] (some ⟨g9, 0, none⟩) n1 c9 qs (.slice (some ⟨g14, 0, none⟩) (n2 + 1) c14) (txC (A.txs ++ [markS])) (n2 + 1) #[.slice (some ⟨g9, 0, none⟩) n1 c9, .slice (some ⟨g14, 0, none⟩) n2 c14, .slice fa k fc] wr) := hS
        have hws : w.heap.size + 3 ≤ wr.heap.size := by have h3 := hS.s.o3.lt; omega
        rw [hx0] at m2
        clear g1 hXi ha1 hqm hS hT hk hql hx0 hF1
        go_upto_region 20 with fail
        generalize wr.alloc (.cells #[.string X.r.name, .slice X.pa PN X.pc, .slice X.ra RN X.rc, .int .i64 X.r.locals, .int .i64 X.r.stack, .slice X.ca CN X.cc] 59) = w5 at *
        clear d0 d1 d2 d3 d4 d5 m0 m1 m2
        obtain ⟨y0, y1, y2, y3, y4, y5, yf⟩ := own6s o5
        go_wp2_with fail
        refine Calls.mono (C1.out w5 B5) ?_
        rintro e w6 ⟨gp, pc, rfl, L6, hpc, hgp, b6⟩
        clear y0 y1 y2 y3 y4 y5 yf C1
        have hgp2 : wr.heap.size ≤ gp := Nat.le_trans B5.size hgp
        have B6 := B5.trans (b6.mono B5.size)
        have o6 := o5.below b6
        have o7 : Own (w6.setCell ⟨wr.heap.size, 1, none⟩ (.slice (some ⟨gp, 0, none⟩) PN pc)) wr.heap.size #[.string X.r.name, .slice (some ⟨gp, 0, none⟩) PN pc, .slice X.ra RN X.rc, .int .i64 X.r.locals, .int .i64 X.r.stack, .slice X.ca CN X.cc] 59 := by simpa using o6.set 1 (.slice (some ⟨gp, 0, none⟩) PN pc)
        have B7 := B6.setCell (p := ⟨wr.heap.size, 1, none⟩) (Nat.le_refl _) (.slice (some ⟨gp, 0, none⟩) PN pc)
        have L7 : LentI (w6.setCell ⟨wr.heap.size, 1, none⟩ (.slice (some ⟨gp, 0, none⟩) PN pc)) gp PN pc X.r.params := Rw.set L6 (Rw.ne L6 o6 (by decide)) 1 _
        obtain ⟨y0, y1, y2, y3, y4, y5, yf⟩ := own6s o6
        go_upto_region 21 with fail
        generalize w6.setCell ⟨wr.heap.size, 1, none⟩ (.slice (some ⟨gp, 0, none⟩) PN pc) = w7 at *
        clear y0 y1 y2 y3 y4 y5 yf o5 o6 B5 B6 L6 b6 hgp
        obtain ⟨y0, y1, y2, y3, y4, y5, yf⟩ := own6s o7
        go_wp2_with fail
        refine Calls.mono (C2.out w7 B7) ?_
        rintro e w8 ⟨gr, rc, rfl, M8, hrc, hgr, b8⟩
        clear y0 y1 y2 y3 y4 y5 yf C2
        have hgr2 : wr.heap.size ≤ gr := Nat.le_trans B7.size hgr
        have B8 := B7.trans (b8.mono B7.size)
        have o8 := o7.below b8
        have L8 := L7.below b8
        have oA : Own (w8.setCell ⟨wr.heap.size, 2, none⟩ (.slice (some ⟨gr, 0, none⟩) RN rc)) wr.heap.size #[.string X.r.name, .slice (some ⟨gp, 0, none⟩) PN pc, .slice (some ⟨gr, 0, none⟩) RN rc, .int .i64 X.r.locals, .int .i64 X.r.stack, .slice X.ca CN X.cc] 59 := by simpa using o8.set 2 (.slice (some ⟨gr, 0, none⟩) RN rc)
        have BA := B8.setCell (p := ⟨wr.heap.size, 2, none⟩) (Nat.le_refl _) (.slice (some ⟨gr, 0, none⟩) RN rc)
        have LA : LentI (w8.setCell ⟨wr.heap.size, 2, none⟩ (.slice (some ⟨gr, 0, none⟩) RN rc)) gp PN pc X.r.params := Rw.set L8 (Rw.ne L8 o8 (by decide)) 2 _
        have MA : LentI (w8.setCell ⟨wr.heap.size, 2, none⟩ (.slice (some ⟨gr, 0, none⟩) RN rc)) gr RN rc X.r.results := Rw.set M8 (Rw.ne M8 o8 (by decide)) 2 _
        obtain ⟨y0, y1, y2, y3, y4, y5, yf⟩ := own6s o8
        go_upto_region 22 with fail
        generalize w8.setCell ⟨wr.heap.size, 2, none⟩ (.slice (some ⟨gr, 0, none⟩) RN rc) = wA at *
        clear y0 y1 y2 y3 y4 y5 yf o7 o8 B7 B8 L7 L8 M8 b8 hgr
        obtain ⟨y0, y1, y2, y3, y4, y5, yf⟩ := own6s oA
        go_wp2_with fail
        refine Calls.mono (C3.out wA BA) ?_
        rintro e wB ⟨gc, cc, rfl, NB, hgc, bB⟩
        clear y0 y1 y2 y3 y4 y5 yf C3
        have hgc2 : wr.heap.size ≤ gc := Nat.le_trans BA.size hgc
        have BB := BA.trans (bB.mono BA.size)
        have oB := oA.below bB
        have LB := LA.below bB
        have MB := MA.below bB
        have oC : Own (wB.setCell ⟨wr.heap.size, 5, none⟩ (.slice (some ⟨gc, 0, none⟩) CN cc)) wr.heap.size #[.string X.r.name, .slice (some ⟨gp, 0, none⟩) PN pc, .slice (some ⟨gr, 0, none⟩) RN rc, .int .i64 X.r.locals, .int .i64 X.r.stack, .slice (some ⟨gc, 0, none⟩) CN cc] 59 := by simpa using oB.set 5 (.slice (some ⟨gc, 0, none⟩) CN cc)
        have BC := BB.setCell (p := ⟨wr.heap.size, 5, none⟩) (Nat.le_refl _) (.slice (some ⟨gc, 0, none⟩) CN cc)
        have LQ : LentQ (w.heap.size + 3) (wB.setCell ⟨wr.heap.size, 5, none⟩ (.slice (some ⟨gc, 0, none⟩) CN cc)) ⟨X.r, some ⟨gp, 0, none⟩, pc, some ⟨gr, 0, none⟩, rc, some ⟨gc, 0, none⟩, cc⟩ :=
          ⟨⟨gp, by omega, rfl, by rw [HPN.out]; exact Rw.set LB (Rw.ne LB oB (by decide)) 5 _⟩, ⟨gr, by omega, rfl, by rw [HRN.out]; exact Rw.set MB (Rw.ne MB oB (by decide)) 5 _⟩, ⟨gc, by omega, rfl, by rw [HCN.out]; exact Rw.set NB (Rw.ne NB oB (by decide)) 5 _⟩⟩
        obtain ⟨y0, y1, y2, y3, y4, y5, yf⟩ := own6s oB
        go_upto_region 23 with fail
        generalize wB.setCell ⟨wr.heap.size, 5, none⟩ (.slice (some ⟨gc, 0, none⟩) CN cc) = wC at *
        clear y0 y1 y2 y3 y4 y5 yf oA oB BA BB LA MA LB MB NB bB hgc
        obtain ⟨y0, y1, y2, y3, y4, y5, yf⟩ := own6s oC
        have S8 := HSh.out.below BC
        have T8 := HTh.out.below BC
        have oE := Own.new wC #[.string X.r.name, .slice (some ⟨gp, 0, none⟩) PN pc, .slice (some ⟨gr, 0, none⟩) RN rc, .int .i64 X.r.locals, .int .i64 X.r.stack, .slice (some ⟨gc, 0, none⟩) CN cc] 59
        have rowE : Rw (wC.alloc (.cells #[.string X.r.name, .slice (some ⟨gp, 0, none⟩) PN pc, .slice (some ⟨gr, 0, none⟩) RN rc, .int .i64 X.r.locals, .int .i64 X.r.stack, .slice (some ⟨gc, 0, none⟩) CN cc] 59)) 59 6 (.slice fa k fc) k (roC ps) := by have := T8.row.alloc (.cells #[.string X.r.name, .slice (some ⟨gp, 0, none⟩) PN pc, .slice (some ⟨gr, 0, none⟩) RN rc, .int .i64 X.r.locals, .int .i64 X.r.stack, .slice (some ⟨gc, 0, none⟩) CN cc] 59); rw [HPL.out] at this; exact this
        obtain ⟨z0, z1, z2, zf⟩ := own3 S8.s.o3
        have HG : Hid (∀ (aD : Option Addr) (cD : Nat) (wD : World), Rw wD 59 6 (.slice aD (k + 1) cD) (k + 1) (roC ps ++ [.string X.r.name, .slice (some ⟨gp, 0, none⟩) PN pc, .slice (some ⟨gr, 0, none⟩) RN rc, .int .i64 X.r.locals, .int .i64 X.r.stack, .slice (some ⟨gc, 0, none⟩) CN cc]) → (wC.alloc (.cells #[.string X.r.name, .slice (some ⟨gp, 0, none⟩) PN pc, .slice (some ⟨gr, 0, none⟩) RN rc, .int .i64 X.r.locals, .int .i64 X.r.stack, .slice (some ⟨gc, 0, none⟩) CN cc] 59)).grownBy wD (Value.slice fa k fc).ownBlock → ((Value.slice aD (k + 1) cD).ownBlock = (Value.slice fa k fc).ownBlock ∨ (Value.slice aD (k + 1) cD).ownBlock = some (wC.alloc (.cells #[.string X.r.name, .slice (some ⟨gp, 0, none⟩) PN pc, .slice (some ⟨gr, 0, none⟩) RN rc, .int .i64 X.r.locals, .int .i64 X.r.stack, .slice (some ⟨gc, 0, none⟩) CN cc] 59)).heap.size) →
            LmR2 w A n3 #[.slice at1 n1 ac1, .slice as1 n2 ac2, .slice af1 n3 ac3] g9 n1 c9 qs g14 n2 c14 gq (.int .i64 ((k + 1 : Nat) : Int)) (wD.setCell ⟨w.heap.size + 2, 2, none⟩ (.slice aD (k + 1) cD)) ∧ Own wD (w.heap.size + 2) #[.slice (some ⟨g9, 0, none⟩) n1 c9, .slice (some ⟨g14, 0, none⟩) n2 c14, .slice fa k fc] 29) := by
          intro aD cD wD r1 r2 r3
          have S9 := (S8.below (new_below wC _)).grown rowE r2 T8.new
          have hnewD : ∀ b, (Value.slice aD (k + 1) cD).ownBlock = some b → w.heap.size ≤ b := fun b q => by
            rcases r3 with r3 | r3
            · exact T8.new b (by rw [← r3]; exact q)
            · rw [r3] at q; cases q; have := BC.size; simp; omega
          have T9 : LmQ w (.slice aD (k + 1) cD) (ps ++ [⟨X.r, some ⟨gp, 0, none⟩, pc, some ⟨gr, 0, none⟩, rc, some ⟨gc, 0, none⟩, cc⟩]) wD := by
            refine ⟨?_, hnewD, fun x hx => ?_⟩
            · rw [roC_append, List.length_append, HPL.out]
              have e : roC [(⟨X.r, some ⟨gp, 0, none⟩, pc, some ⟨gr, 0, none⟩, rc, some ⟨gc, 0, none⟩, cc⟩ : RoP)] = [.string X.r.name, .slice (some ⟨gp, 0, none⟩) PN pc, .slice (some ⟨gr, 0, none⟩) RN rc, .int .i64 X.r.locals, .int .i64 X.r.stack, .slice (some ⟨gc, 0, none⟩) CN cc] := by
                show [Value.string X.r.name, .slice (some ⟨gp, 0, none⟩) X.r.params.length pc, .slice (some ⟨gr, 0, none⟩) X.r.results.length rc, .int .i64 X.r.locals, .int .i64 X.r.stack, .slice (some ⟨gc, 0, none⟩) X.r.code.length cc] = _
                rw [HPN.out, HRN.out, HCN.out]
              rw [e]; exact r1
            · have hh : LentQ (w.heap.size + 3) wC x := by
                rcases List.mem_append.1 hx with hx | hx
                · exact T8.each x hx
                · rw [List.mem_singleton.1 hx]; exact LQ
              exact (hh.below (new_below wC (.cells #[.string X.r.name, .slice (some ⟨gp, 0, none⟩) PN pc, .slice (some ⟨gr, 0, none⟩) RN rc, .int .i64 X.r.locals, .int .i64 X.r.stack, .slice (some ⟨gc, 0, none⟩) CN cc] 59))).grown rowE (by decide) (by decide) r2
          refine ⟨⟨k + 1, aD, cD, ps ++ [⟨X.r, some ⟨gp, 0, none⟩, pc, some ⟨gr, 0, none⟩, rc, some ⟨gc, 0, none⟩, cc⟩], by have := HK.out; omega, rfl, by rw [List.length_append, HPL.out]; rfl, HM.out _ rfl, by simpa using S9.set 2 (.slice aD (k + 1) cD), ?_⟩, S9.s.o3⟩
          exact ⟨T9.row.set (T9.row.ne S9.s.o3 (by decide)) 2 _, T9.new, fun x hx => (T9.each x hx).set S9.s.o3 (by decide) (by decide) 2 _⟩
        clear S8 T8 LQ BC HSh HTh HM HPL
        go_wp2_with (refine wpList_app1 okR (by rfl) (.tmp 97) (.tmp 99) (by rfl) _ k (roC ps) (by rfl) rowE wC.heap.size [.string X.r.name, .slice (some ⟨gp, 0, none⟩) PN pc, .slice (some ⟨gr, 0, none⟩) RN rc, .int .i64 X.r.locals, .int .i64 X.r.stack, .slice (some ⟨gc, 0, none⟩) CN cc] (by rfl) oE rfl (by simp [Value.oneCell']) (by omega) ?_; intro a9 c9' w9 q1 q2 q3; obtain ⟨RES, o9⟩ := HG.out a9 c9' w9 q1 q2 q3; clear q1 q2 q3 HG rowE oE y0 y1 y2 y3 y4 y5 yf z0 z1 z2 zf; obtain ⟨z0, z1, z2, zf⟩ := own3 o9)
        go_roundg gq
        case measure => omega
        case rel => exact RES
      | zero =>
        obtain rfl : k = n3 := by omega
        have HPM : Hid (ps.map RoP.r = A.fns.map RoP.r) := by rw [Hid, hqm, ← HN3.out, List.take_length]
        clear hqm hql hk
        have oE := Own.new wr #[.string markS, .slice none 0 0, .slice none 0 0, .int .i64 0, .int .i64 0, .slice none 0 0] 59
        have rowE : Rw (wr.alloc (.cells #[.string markS, .slice none 0 0, .slice none 0 0, .int .i64 0, .int .i64 0, .slice none 0 0] 59)) 59 6 (.slice fa k fc) k (roC ps) := by have := hT.row.alloc (.cells #[.string markS, .slice none 0 0, .slice none 0 0, .int .i64 0, .int .i64 0, .slice none 0 0] 59); rw [HPL.out] at this; exact this
        obtain ⟨z0, z1, z2, zf⟩ := own3 hS.s.o3
        have HG : Hid (∀ (a20 : Option Addr) (c20 : Nat) (w20 : World), Rw w20 59 6 (.slice a20 (k + 1) c20) (k + 1) (roC ps ++ [.string markS, .slice none 0 0, .slice none 0 0, .int .i64 0, .int .i64 0, .slice none 0 0]) → (wr.alloc (.cells #[.string markS, .slice none 0 0, .slice none 0 0, .int .i64 0, .int .i64 0, .slice none 0 0] 59)).grownBy w20 (Value.slice fa k fc).ownBlock → ((Value.slice a20 (k + 1) c20).ownBlock = (Value.slice fa k fc).ownBlock ∨ (Value.slice a20 (k + 1) c20).ownBlock = some (wr.alloc (.cells #[.string markS, .slice none 0 0, .slice none 0 0, .int .i64 0, .int .i64 0, .slice none 0 0] 59)).heap.size) → ∃ g20, a20 = some ⟨g20, 0, none⟩ ∧ k + 1 ≤ c20 ∧ LmS w #[.slice at1 n1 ac1, .slice as1 n2 ac2, .slice af1 k ac3] #[.slice (some ⟨g9, 0, none⟩) n1 c9, .slice (some ⟨g14, 0, none⟩) n2 c14, .slice fa k fc] w20 ∧ LentM w.heap.size w20 (⟨qs, some ⟨g9, 0, none⟩, c9, A.txs, some ⟨g14, 0, none⟩, c14, ps, some ⟨g20, 0, none⟩, c20⟩ : MoP)) := by
          intro a20 c20 w20 r1 r2 r3
          obtain ⟨g20, cap20, cur20, e20, -, hc20, -⟩ := r1.block (by omega)
          cases e20
          have S := (hS.below (new_below wr _)).grown rowE r2 hT.new
          refine ⟨g20, rfl, hc20, S.s, ⟨?_, fun x hx => (S.each x hx).mono (by omega), ?_, ?_, fun x hx => (((hT.each x hx).below (new_below wr (.cells #[.string markS, .slice none 0 0, .slice none 0 0, .int .i64 0, .int .i64 0, .slice none 0 0] 59))).grown rowE (by decide) (by decide) r2).mono (by omega)⟩⟩
          · show Rw w20 57 5 (.slice (some ⟨g9, 0, none⟩) (qs.length + 1) c9) (qs.length + 1) _
            rw [HQL.out]; exact S.trow
          · show Rw w20 9 1 (.slice (some ⟨g14, 0, none⟩) (A.txs.length + 1) c14) (A.txs.length + 1) _
            rw [HN2.out]; exact S.xrow
          · show Rw w20 59 6 (.slice (some ⟨g20, 0, none⟩) (ps.length + 1) c20) (ps.length + 1) _
            rw [HPL.out, roC_append]; exact r1
        have HC9 : Hid (n1 + 1 ≤ c9 ∧ n2 + 1 ≤ c14) := ⟨hc9, hc14⟩
        clear hS hT
        go_upto_region 25 with (refine wpList_app1 okR (by rfl) (.tmp 103) (.tmp 105) (by rfl) _ k (roC ps) (by rfl) rowE wr.heap.size [.string markS, .slice none 0 0, .slice none 0 0, .int .i64 0, .int .i64 0, .slice none 0 0] (by rfl) oE rfl (by simp [Value.oneCell']) (by omega) ?_; intro a20 c20 w20 q1 q2 q3; obtain ⟨g20, ea, hc20, S20, M20⟩ := HG.out a20 c20 w20 q1 q2 q3; clear q1 q2 q3 HG rowE oE z0 z1 z2 zf; obtain ⟨z0, z1, z2, zf⟩ := own3 S20.o3)
        subst ea
        have S21 := S20.set 2 (.slice (some ⟨g20, 0, none⟩) (k + 1) c20)
        have M21 := M20.set S20.o3 2 (.slice (some ⟨g20, 0, none⟩) (k + 1) c20)
        clear z0 z1 z2 zf S20 M20 m0 m1 m2
        generalize w20.setCell ⟨w.heap.size + 2, 2, none⟩ (.slice (some ⟨g20, 0, none⟩) (k + 1) c20) = w21 at *
        have S21 : LmS w #[.slice at1 n1 ac1, .slice as1 n2 ac2, .slice af1 k ac3] #[.slice (some ⟨g9, 0, none⟩) n1 c9, .slice (some ⟨g14, 0, none⟩) n2 c14, .slice (some ⟨g20, 0, none⟩) (k + 1) c20] w21 := by simpa using S21
        obtain ⟨z0, z1, z2, zf⟩ := own3 S21.o3
        obtain ⟨m0, m1, m2⟩ := own3b S21.om
        have e1 : (k : Int) ≤ (c20 : Int) := by omega
        have e2 : k ≤ c20 := by omega
        have e3 : ¬ c20 = 0 := by omega
        have S22 := S21.set 2 (.slice (some ⟨g20, 0, none⟩) k c20)
        have M22 := M21.set S21.o3 2 (.slice (some ⟨g20, 0, none⟩) k c20)
        go_upto_region 26 with fail
        generalize w21.setCell ⟨w.heap.size + 2, 2, none⟩ (.slice (some ⟨g20, 0, none⟩) k c20) = w22 at *
        have S22 : LmS w #[.slice at1 n1 ac1, .slice as1 n2 ac2, .slice af1 k ac3] #[.slice (some ⟨g9, 0, none⟩) n1 c9, .slice (some ⟨g14, 0, none⟩) n2 c14, .slice (some ⟨g20, 0, none⟩) k c20] w22 := by simpa using S22
        clear z0 z1 z2 zf m0 m1 m2 S21 M21 e1 e2 e3
        obtain ⟨z0, z1, z2, zf⟩ := own3 S22.o3
        obtain ⟨t0, t1, t2, tf⟩ := own3 S22.o2
        have oR : Own (((w22.setCell ⟨w.heap.size + 1, 0, none⟩ (.slice (some ⟨g9, 0, none⟩) n1 c9)).setCell ⟨w.heap.size + 1, 1, none⟩ (.slice (some ⟨g14, 0, none⟩) n2 c14)).setCell ⟨w.heap.size + 1, 2, none⟩ (.slice (some ⟨g20, 0, none⟩) k c20)) (w.heap.size + 1) #[.slice (some ⟨g9, 0, none⟩) n1 c9, .slice (some ⟨g14, 0, none⟩) n2 c14, .slice (some ⟨g20, 0, none⟩) k c20] 29 := by
          simpa using ((S22.o2.set 0 (.slice (some ⟨g9, 0, none⟩) n1 c9)).set 1 (.slice (some ⟨g14, 0, none⟩) n2 c14)).set 2 (.slice (some ⟨g20, 0, none⟩) k c20)
        have RES : Hid (∃ A' : MoP, Ending.returned (.agg #[.slice (some ⟨g9, 0, none⟩) n1 c9, .slice (some ⟨g14, 0, none⟩) n2 c14, .slice (some ⟨g20, 0, none⟩) k c20]) = .returned (.agg A'.cs) ∧ A'.mo = A.mo ∧ LentM w.heap.size (((w22.setCell ⟨w.heap.size + 1, 0, none⟩ (.slice (some ⟨g9, 0, none⟩) n1 c9)).setCell ⟨w.heap.size + 1, 1, none⟩ (.slice (some ⟨g14, 0, none⟩) n2 c14)).setCell ⟨w.heap.size + 1, 2, none⟩ (.slice (some ⟨g20, 0, none⟩) k c20)) A' ∧ (A'.tys.length + 1 ≤ A'.tc ∧ A'.txs.length + 1 ≤ A'.sc ∧ A'.fns.length + 1 ≤ A'.fc) ∧ Below w.heap.size w (((w22.setCell ⟨w.heap.size + 1, 0, none⟩ (.slice (some ⟨g9, 0, none⟩) n1 c9)).setCell ⟨w.heap.size + 1, 1, none⟩ (.slice (some ⟨g14, 0, none⟩) n2 c14)).setCell ⟨w.heap.size + 1, 2, none⟩ (.slice (some ⟨g20, 0, none⟩) k c20))) := by
          refine ⟨(⟨qs, some ⟨g9, 0, none⟩, c9, A.txs, some ⟨g14, 0, none⟩, c14, ps, some ⟨g20, 0, none⟩, c20⟩ : MoP), ?_, ?_, ((M22.set S22.o2 0 _).set (S22.o2.set 0 _) 1 _).set ((S22.o2.set 0 _).set 1 _) 2 _, ⟨?_, ?_, ?_⟩, ((S22.bel.setCell (p := ⟨w.heap.size + 1, 0, none⟩) (by show w.heap.size ≤ w.heap.size + 1; omega) _).setCell (p := ⟨w.heap.size + 1, 1, none⟩) (by show w.heap.size ≤ w.heap.size + 1; omega) _).setCell (p := ⟨w.heap.size + 1, 2, none⟩) (by show w.heap.size ≤ w.heap.size + 1; omega) _⟩
          · show _ = Ending.returned (.agg #[.slice (some ⟨g9, 0, none⟩) qs.length c9, .slice (some ⟨g14, 0, none⟩) A.txs.length c14, .slice (some ⟨g20, 0, none⟩) ps.length c20])
            rw [HQL.out, HN2.out, HPL.out]
          · unfold MoP.mo
            show Mo.mk (qs.map TyP.t) A.txs (ps.map RoP.r) = _
            rw [HQM.out, HPM.out]
          · show qs.length + 1 ≤ c9
            rw [HQL.out]; exact HC9.out.1
          · show A.txs.length + 1 ≤ c14
            rw [HN2.out]; exact HC9.out.2
          · show ps.length + 1 ≤ c20
            rw [HPL.out]; exact hc20
        clear S22 M22
        go_wp2_with fail
        refine bodyPost_cell1 (g := w.heap.size + 1) (t := 29) rfl rfl rfl oR Tryd.underlying29 rfl (by kernel_rfl) ?_
        exact RES.out
end Go.Proofs.YtjfdlphkmpkjdaaDoor
