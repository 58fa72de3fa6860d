/-
  What an instruction takes hangs on what a module holds, not on where it lies.
  OpsTakes: how long what is taken is; rows of numbers alike.
  OpsTakes, walked.
-/
import Derived.Test.YtjfdlphkmpkjdaaDoorJck
import Derived.Test.YtjfdlphkmpkjdaaDoorJkk
import Derived.Test.YtjfdlphkmpkjdaaDoorJdt
import Derived.Test.YtjfdlphkmpkjdaaDoorJml
import Derived.Test.YtjfdlphkmpkjdaaDoorMi
import Derived.Test.YtjfdlphkmpkjdaaDoorJlk
import Derived.Test.YtjfdlphkmpkjdaaDoorJec
namespace Go.Proofs.YtjfdlphkmpkjdaaDoor
open Go.RowKit
set_option linter.unusedVariables false

/-! ### What Check tells hangs on what a module holds, not on where it lies -/
theorem getD_mapz {α β : Type} (f : α → β) (l : List α) (i : Nat) (z : α) : (l.map f).getD i (f z) = f (l.getD i z) := by
  simp only [List.getD_eq_getElem?_getD, List.getElem?_map]
  cases l[i]? <;> rfl
theorem fnd_t (tys : List TyP) (x : Int) (ks : List Nat) : (fnd tys x ks).map TyP.t = (if x < 16 ∨ ((tys.map TyP.t).length : Int) ≤ x - 16 then none else if ((tys.map TyP.t).getD (x - 16).toNat zTy).kind ∈ ks then some ((tys.map TyP.t).getD (x - 16).toNat zTy) else none) := by
  have h : (tys.map TyP.t).getD (x - 16).toNat zTy = (tys.getD (x - 16).toNat zTP).t := getD_mapz TyP.t tys _ zTP
  rw [h, List.length_map]
  unfold fnd
  by_cases h1 : x < 16 ∨ (tys.length : Int) ≤ x - 16
  · rw [if_pos h1, if_pos h1]; rfl
  · rw [if_neg h1, if_neg h1]
    by_cases h2 : (tys.getD (x - 16).toNat zTP).t.kind ∈ ks
    · rw [if_pos h2, if_pos h2]; rfl
    · rw [if_neg h2, if_neg h2]; rfl
theorem fnd_eq {a b : List TyP} (h : a.map TyP.t = b.map TyP.t) (x : Int) (ks : List Nat) : (fnd a x ks).map TyP.t = (fnd b x ks).map TyP.t := by rw [fnd_t, fnd_t, h]
theorem recM_eq {a b : List TyP} (h : a.map TyP.t = b.map TyP.t) (op : Nat) (x y : Int) : recM a op x y = recM b op x y := by
  have e := fnd_eq h x [6]
  unfold recM
  cases ha : fnd a x [6] with
  | none =>
    cases hb : fnd b x [6] with
    | none => rfl
    | some t => rw [ha, hb] at e; cases e
  | some s =>
    cases hb : fnd b x [6] with
    | none => rw [ha, hb] at e; cases e
    | some t =>
      rw [ha, hb] at e
      have e2 : s.t = t.t := Option.some.inj e
      show recT s op x y = recT t op x y
      unfold recT
      rw [e2]
theorem arrM_eq {a b : List TyP} (h : a.map TyP.t = b.map TyP.t) (op : Nat) (x : Int) : arrM a op x = arrM b op x := by
  have e := fnd_eq h x (ksOf op)
  unfold arrM
  cases ha : fnd a x (ksOf op) with
  | none =>
    cases hb : fnd b x (ksOf op) with
    | none => rfl
    | some t => rw [ha, hb] at e; cases e
  | some s =>
    cases hb : fnd b x (ksOf op) with
    | none => rw [ha, hb] at e; cases e
    | some t =>
      rw [ha, hb] at e
      have e2 : s.t = t.t := Option.some.inj e
      show arrT op x s.t.elem = arrT op x t.t.elem
      rw [e2]
theorem callM_eq {a b : List RoP} (h : a.map RoP.r = b.map RoP.r) (x : Int) : callM a x = callM b x := by
  have hl : a.length = b.length := by simpa using congrArg List.length h
  have h1 : (a.getD x.toNat zRP).r = (b.getD x.toNat zRP).r := by
    rw [← getD_mapz RoP.r a _ zRP, ← getD_mapz RoP.r b _ zRP, h]
  unfold callM
  rw [hl, h1]
theorem takM_mo {A B : MoP} (h : A.mo = B.mo) : takM A = takM B := by
  have ht : A.tys.map TyP.t = B.tys.map TyP.t := congrArg Mo.types h
  have hx : A.txs = B.txs := congrArg Mo.texts h
  have hf : A.fns.map RoP.r = B.fns.map RoP.r := congrArg Mo.funcs h
  funext x
  unfold takM effM
  rw [hx, callM_eq hf, recM_eq ht, arrM_eq ht]
end Go.Proofs.YtjfdlphkmpkjdaaDoor
namespace Go.Proofs.YtjfdlphkmpkjdaaDoor
open Go.RowKit
set_option linter.unusedVariables false

def Shrt (r : Option (List Int × List Int)) : Prop := ∀ p, r = some p → p.1.length ≤ 100003 ∧ p.2.length ≤ 100003
theorem shrt_none : Shrt none := fun p h => by cases h
theorem shrt_some {a b : List Int} (ha : a.length ≤ 100003) (hb : b.length ≤ 100003) : Shrt (some (a, b)) := fun p h => by cases h; exact ⟨ha, hb⟩
theorem fnd_in {tys : List TyP} {x : Int} {ks : List Nat} {t : TyP} (h : fnd tys x ks = some t) : t ∈ tys := by
  unfold fnd at h
  split at h
  · cases h
  · split at h
    · cases h; exact getD_in (by omega)
    · cases h
theorem recM_shrt {tys : List TyP} (h : ∀ t ∈ tys, t.t.fields.length ≤ 100000) (op : Nat) (x y : Int) : Shrt (recM tys op x y) := by
  unfold recM
  split
  · exact shrt_none
  · rename_i t ht
    have := h t (fnd_in ht)
    unfold recT
    repeat' (first | exact shrt_none | (refine shrt_some ?_ ?_ <;> simp <;> omega) | split)
theorem arrM_shrt (tys : List TyP) (op : Nat) (x : Int) : Shrt (arrM tys op x) := by
  unfold arrM
  split
  · exact shrt_none
  · unfold arrT
    repeat' (first | exact shrt_none | (refine shrt_some ?_ ?_ <;> simp) | split)
theorem effM_shrt {m : MoP} (hs : Small m 100000) (op : Nat) (a b : Int) : Shrt (effM m op a b) := by
  unfold effM
  split
  · split
    · exact shrt_some (by simp) (by simp)
    · exact shrt_none
  split
  · unfold callM
    split
    · by_cases h : a.toNat < m.fns.length
      · have := hs.ro _ (getD_in (z := zRP) h)
        exact shrt_some (by omega) (by omega)
      · have e : m.fns.getD a.toNat zRP = zRP := by simp [List.getD, List.getElem?_eq_none (Nat.le_of_not_lt h)]
        rw [e]
        exact shrt_some (by simp [zRP, zRo]) (by simp [zRP, zRo])
    · exact shrt_none
  split
  · exact recM_shrt hs.fl op a b
  split
  · exact arrM_shrt _ op a
  · intro p h
    cases h
    have hP : ∀ (c : Prop) [Decidable c] (x y : List Int × List Int), (x.1.length ≤ 100003 ∧ x.2.length ≤ 100003) → (y.1.length ≤ 100003 ∧ y.2.length ≤ 100003) → (if c then x else y).1.length ≤ 100003 ∧ (if c then x else y).2.length ≤ 100003 := fun c _ x y hx hy => by
      by_cases hc : c
      · rw [if_pos hc]; exact hx
      · rw [if_neg hc]; exact hy
    unfold plE
    repeat (refine hP _ _ _ ⟨by simp, by simp⟩ ?_)
    exact ⟨by simp, by simp⟩
theorem takM_len {m : MoP} (hs : Small m 100000) (x : In) : (takM m x).1.1.length ≤ 100003 ∧ (takM m x).1.2.length ≤ 100003 := by
  unfold takM
  split
  · have := effM_shrt hs x.op x.a x.b
    split
    · simp
    · rename_i r hr
      exact this r hr
  · simp
theorem sameRow {w : World} {xs : List Int} {a a' : Option Addr} {n c c' : Nat} (hn : n = xs.length) (h : Rw w 3 1 (.slice a n c) n (intV xs)) (h' : Rw w 3 1 (.slice a' n c') n (intV xs)) (hm : n ≤ 100003) :
    Calls Tryd.prog 11 #[.slice a n c, .slice a' n c'] w fun e w' => e = .returned (.bool true) ∧ Below w.heap.size w w' := by
  subst hn
  exact sameInts_as rfl rfl (rw_rowAt h (Nat.le_refl _) (fun i hi d hd => intV_get xs i hi d hd)) (rw_rowAt h' (Nat.le_refl _) (fun i hi d hd => intV_get xs i hi d hd)) (by unfold big; omega) true (by simp)
end Go.Proofs.YtjfdlphkmpkjdaaDoor
namespace Go.Proofs.YtjfdlphkmpkjdaaDoor
open Go.RowKit
set_option linter.unusedVariables false

/-- What stands while the law runs. -/
structure TkS (W w : World) (X M Y N : Array Value) (gY gN g n c B : Nat) (ar : List (Int × Int)) (A' : MoP) : Prop where
  ox : Own w W.heap.size X 24
  om : Own w (W.heap.size + 1) M 29
  oy : Own w gY Y 24
  on : Own w gN N 29
  lent : LentR w g n c ar
  lm : LentM B w A'
  bel : Below W.heap.size W w
theorem TkS.below {W w w' : World} {X M Y N : Array Value} {gY gN g n c B : Nat} {ar : List (Int × Int)} {A' : MoP} (h : TkS W w X M Y N gY gN g n c B ar A') (hb : Below w.heap.size w w') : TkS W w' X M Y N gY gN g n c B ar A' :=
  ⟨h.ox.below hb, h.om.below hb, h.oy.below hb, h.on.below hb, h.lent.below hb, h.lm.below hb, h.bel.trans (hb.mono h.bel.size)⟩
/-- What was answered, while it is written over. -/
def SpI (w : World) (vc vd : Value) (L1 L2 : Nat) (wr : World) : Prop := Below w.heap.size w wr ∧ (∃ zs, Rw wr 3 1 vc L1 zs) ∧ ∃ zs, Rw wr 3 1 vd L2 zs
def TkR (w : World) (L1 L2 : Nat) (Z1 Z2 : List Value) (E : Int) (e : Ending) (w' : World) : Prop := ∃ a1 c1 a2 c2, e = .returned (.tuple #[.slice a1 L1 c1, .slice a2 L2 c2, .int .i64 E]) ∧ Rw w' 3 1 (.slice a1 L1 c1) L1 Z1 ∧ Rw w' 3 1 (.slice a2 L2 c2) L2 Z2 ∧ (∀ b, (Value.slice a1 L1 c1).ownBlock = some b → w.heap.size ≤ b) ∧ (∀ b, (Value.slice a2 L2 c2).ownBlock = some b → w.heap.size ≤ b) ∧ Below w.heap.size w w'
theorem tak_tkr {w : World} {T : (List Int × List Int) × Nat} {e : Ending} {w' : World} (h : TakRet w T e w') : TkR w T.1.1.length T.1.2.length (intV T.1.1) (intV T.1.2) (T.2 : Int) e w' := by
  obtain ⟨a1, c1, a2, c2, rfl, h1, h2, h3⟩ := h
  exact ⟨a1, c1, a2, c2, rfl, h1.row, h2.row, h1.new, h2.new, h3⟩
set_option maxHeartbeats 8000000 in
set_option maxRecDepth 100000 in
theorem takes_walk (W : World) (x : In) (ao : Option Addr) (cap : Nat) (hx : InAt W x ao cap) (A : MoP) (hA : MoIn W A) (hN : NamesAt W) :
    Calls Tryd.prog 3 #[insV x (.slice ao x.arms.length cap), .agg A.cs] W fun e w' => e = .returned (.bool true) ∧ Below W.heap.size W w' := by
  obtain ⟨n, hn⟩ : ∃ n, x.arms.length = n := ⟨_, rfl⟩
  have oX := (Own.new W #[.int .u8 (x.op : Int), .int .i64 x.a, .int .i64 x.b, .slice ao n cap] 24).alloc (.cells A.cs 29)
  have oM := Own.new (W.alloc (.cells #[.int .u8 (x.op : Int), .int .i64 x.a, .int .i64 x.b, .slice ao n cap] 24)) A.cs 29
  rw [World.size_alloc] at oM
  have hb1 : Below W.heap.size W ((W.alloc (.cells #[.int .u8 (x.op : Int), .int .i64 x.a, .int .i64 x.b, .slice ao n cap] 24)).alloc (.cells A.cs 29)) := (new_below _ _).alloc (by simp) _
  have HWORKS : Hid (∀ w, Below W.heap.size W w → Calls Tryd.prog 6 #[] w fun e w' => e = .returned (.bool true) ∧ Below w.heap.size w w') := fun w h => works_any (hN.below h)
  have HBK : Hid (∀ w, Below W.heap.size W w → Calls Tryd.prog 5 #[.agg A.cs, .int .i64 10000] w (BulkRet A.mo 10000 w)) := fun w q => kBulk_as (hA.below q) 10000 (by omega) (by omega)
  have HLENT : Hid (n ≤ 1000 → ∀ w, Below W.heap.size W w → Calls Tryd.prog 7 #[.agg #[.int .u8 (x.op : Int), .int .i64 x.a, .int .i64 x.b, .slice ao n cap]] w fun e w' => ∃ g c, e = .returned (.agg #[.int .u8 (x.op : Int), .int .i64 x.a, .int .i64 x.b, .slice (some ⟨g, 0, none⟩) n c]) ∧ LentR w' g n c x.arms ∧ w.heap.size ≤ g ∧ Below w.heap.size w w') := fun hsm w h =>
    klent_as (w := w) (x := x) (ao := ao) (cp := cap) ⟨hx.lies.below h, hx.none, hx.le, hx.max⟩ n hn.symm (by omega)
  have HLM : Hid ((A.mo.bulk : Int) ≤ 10000 → ∀ w, Below W.heap.size W w → Calls Tryd.prog 8 #[.agg A.cs] w fun e w' => ∃ A' : MoP, e = .returned (.agg A'.cs) ∧ A'.mo = A.mo ∧ LentM w.heap.size w' A' ∧ (A'.tys.length + 1 ≤ A'.tc ∧ A'.txs.length + 1 ≤ A'.sc ∧ A'.fns.length + 1 ≤ A'.fc) ∧ Below w.heap.size w w') := fun k w h => klentM_as (hA.below h) (by omega)
  have HRT : Hid (n ≤ 1000 → (A.mo.bulk : Int) ≤ 10000 → ∀ w, Below W.heap.size W w → Calls Tryd.prog 9 #[.agg #[.int .u8 (x.op : Int), .int .i64 x.a, .int .i64 x.b, .slice ao n cap], .agg A.cs] w (TkR w (takM A x).1.1.length (takM A x).1.2.length (intV (takM A x).1.1) (intV (takM A x).1.2) ((takM A x).2 : Int))) := fun hsm k w h =>
    (rtakes_as (hA.below h) (small_of (by omega)) (cp := cap) (hx.lies.below h) n hn.symm (by omega)).mono fun _ _ q => tak_tkr q
  have HIN : Hid ((A.mo.bulk : Int) ≤ 10000 → ∀ (w : World) (B : Nat) (A' : MoP), A'.mo = A.mo → LentM B w A' → (A'.tys.length + 1 ≤ A'.tc ∧ A'.txs.length + 1 ≤ A'.sc ∧ A'.fns.length + 1 ≤ A'.fc) → MoIn w A' ∧ Small A' 100000) := fun k w B A' he hl hc => by
    have hs : Small A' 100000 := small_of (by rw [he]; omega)
    exact ⟨lentM_in hl hc (he ▸ hA.ok) hs, hs⟩
  have HT : Hid (n ≤ 1000 → (A.mo.bulk : Int) ≤ 10000 → ∀ (w : World) (g c B : Nat) (A' : MoP), LentR w g n c x.arms → A'.mo = A.mo → LentM B w A' → (A'.tys.length + 1 ≤ A'.tc ∧ A'.txs.length + 1 ≤ A'.sc ∧ A'.fns.length + 1 ≤ A'.fc) → Calls Tryd.prog 10 #[.agg #[.int .u8 (x.op : Int), .int .i64 x.a, .int .i64 x.b, .slice (some ⟨g, 0, none⟩) n c], .agg A'.cs] w (TkR w (takM A x).1.1.length (takM A x).1.2.length (intV (takM A x).1.1) (intV (takM A x).1.2) ((takM A x).2 : Int))) := fun hsm k w g c B A' hl he hm hc => by
    have hq := HIN.out k w B A' he hm hc
    rw [← takM_mo he]
    exact (takes_as hq.1 hq.2 (cp := c) (x := x) (ao := some ⟨g, 0, none⟩) ⟨hx.lies.op, hx.lies.a, hx.lies.b, hl.arms hn.symm hx.lies.arms.nums⟩ n hn.symm (by omega)).mono fun _ _ q => tak_tkr q
  have HKI : Hid (n ≤ 1000 → ∀ w g c, Below W.heap.size W w → LentR w g n c x.arms → Calls Tryd.prog 12 #[.agg #[.int .u8 (x.op : Int), .int .i64 x.a, .int .i64 x.b, .slice (some ⟨g, 0, none⟩) n c], .agg #[.int .u8 (x.op : Int), .int .i64 x.a, .int .i64 x.b, .slice ao n cap]] w fun e w' => e = .returned (.bool true) ∧ Below w.heap.size w w') := fun hsm w g c h q => kkept_as (cp := cap) (hx.lies.below h) n hn.symm (by omega) g c q
  have HKM : Hid ((A.mo.bulk : Int) ≤ 10000 → ∀ (w : World) (B : Nat) (A' : MoP), Below W.heap.size W w → A'.mo = A.mo → LentM B w A' → (A'.tys.length + 1 ≤ A'.tc ∧ A'.txs.length + 1 ≤ A'.sc ∧ A'.fns.length + 1 ≤ A'.fc) → Calls Tryd.prog 13 #[.agg A'.cs, .agg A.cs] w fun e w' => e = .returned (.bool true) ∧ Below w.heap.size w w') := fun k w B A' h he hm hc => kkeptM_as hm (HIN.out k w B A' he hm hc).1 (hA.below h) he (small_of (by omega)) hc
  have HLE : Hid ((A.mo.bulk : Int) ≤ 10000 → (takM A x).1.1.length ≤ 100003 ∧ (takM A x).1.2.length ≤ 100003) := fun k => takM_len (small_of (by omega)) x
  have HS1 : Hid (∀ (w : World) (a a' : Option Addr) (c c' : Nat), (takM A x).1.1.length ≤ 100003 → Rw w 3 1 (.slice a (takM A x).1.1.length c) (takM A x).1.1.length (intV (takM A x).1.1) → Rw w 3 1 (.slice a' (takM A x).1.1.length c') (takM A x).1.1.length (intV (takM A x).1.1) → Calls Tryd.prog 11 #[.slice a (takM A x).1.1.length c, .slice a' (takM A x).1.1.length c'] w fun e w' => e = .returned (.bool true) ∧ Below w.heap.size w w') := fun w a a' c c' k h h' => sameRow rfl h h' k
  have HS2 : Hid (∀ (w : World) (a a' : Option Addr) (c c' : Nat), (takM A x).1.2.length ≤ 100003 → Rw w 3 1 (.slice a (takM A x).1.2.length c) (takM A x).1.2.length (intV (takM A x).1.2) → Rw w 3 1 (.slice a' (takM A x).1.2.length c') (takM A x).1.2.length (intV (takM A x).1.2) → Calls Tryd.prog 11 #[.slice a (takM A x).1.2.length c, .slice a' (takM A x).1.2.length c'] w fun e w' => e = .returned (.bool true) ∧ Below w.heap.size w w') := fun w a a' c c' k h h' => sameRow rfl h h' k
  rw [hn]
  clear HIN hx hA hN hn
  generalize (takM A x).1.1.length = L1 at *
  generalize (takM A x).1.2.length = L2 at *
  generalize intV (takM A x).1.1 = Z1 at *
  generalize intV (takM A x).1.2 = Z2 at *
  generalize ((takM A x).2 : Int) = ER at *
  generalize hAM : A.mo.bulk = KA at *
  obtain ⟨MO, hMO⟩ : ∃ MO, A.mo = MO := ⟨_, rfl⟩
  rw [hMO] at HLM HT HKM HBK hAM
  clear hMO
  unfold insV
  unfold MoP.cs at *
  generalize A.tys.length = n1 at *
  generalize A.txs.length = n2 at *
  generalize A.fns.length = n3 at *
  generalize (x.op : Int) = N at *
  generalize x.a = XA at *
  generalize x.b = XB at *
  generalize x.arms = ar at *
  go_enter Tryd.func3, Tryd.ntmps3
  go_upto_region 1 with fail
  generalize (W.alloc (.cells #[.int .u8 N, .int .i64 XA, .int .i64 XB, .slice ao n cap] 24)).alloc (.cells #[.slice A.ta n1 A.tc, .slice A.sa n2 A.sc, .slice A.fa n3 A.fc] 29) = w2 at *
  obtain ⟨x0, x1, x2, x3, xf⟩ := own4 oX
  obtain ⟨y0, y1, y2, yf⟩ := own3 oM
  by_cases hbig : (1000 : Int) < (n : Int)
  · clear HLENT HLM HRT HT HKI HKM HLE HS1 HS2 HBK hAM
    go_wp2_with fail
    refine Calls.mono (HWORKS.out w2 hb1) ?_
    rintro e w3 ⟨rfl, b3⟩
    replace hb1 := hb1.trans (b3.mono hb1.size)
    go_wp2
    go_ret
    exact ⟨rfl, hb1⟩
  · have hsmi : (n : Int) ≤ 1000 := by omega
    have HSM : Hid (n ≤ 1000) := by have : n ≤ 1000 := by omega
                                    exact this
    go_wp2_with fail
    refine Calls.mono (HBK.out w2 hb1) ?_
    rintro e w3 ⟨r1, rfl, hr1, b3⟩
    replace hb1 := hb1.trans (b3.mono hb1.size)
    replace oX := oX.below b3
    replace oM := oM.below b3
    clear x0 x1 x2 x3 xf y0 y1 y2 yf b3 HBK
    obtain ⟨x0, x1, x2, x3, xf⟩ := own4 oX
    obtain ⟨y0, y1, y2, yf⟩ := own3 oM
    by_cases hq1 : (10000 : Int) < r1
    · clear hr1 HLENT HLM HRT HT HKI HKM HLE HS1 HS2 hAM
      go_wp2_with fail
      refine Calls.mono (HWORKS.out w3 hb1) ?_
      rintro e w4 ⟨rfl, b4⟩
      replace hb1 := hb1.trans (b4.mono hb1.size)
      go_wp2
      go_ret
      exact ⟨rfl, hb1⟩
    · have hle1 : r1 ≤ 10000 := by omega
      have HK : Hid ((KA : Int) ≤ 10000) := by have := hr1 hle1; rw [hAM] at this; exact this
      clear hr1 hAM
      replace HLENT := HLENT.out HSM.out
      replace HLM := HLM.out HK.out
      replace HRT := HRT.out HSM.out HK.out
      replace HT := HT.out HSM.out HK.out
      replace HKI := HKI.out HSM.out
      replace HKM := HKM.out HK.out
      obtain ⟨hL1, hL2⟩ := HLE.out HK.out
      have HL1 : Hid (L1 ≤ 100003) := hL1
      have HL2 : Hid (L2 ≤ 100003) := hL2
      clear HLE hL1 hL2
      go_wp2_with fail
      refine Calls.mono (HLENT w3 hb1) ?_
      rintro e w4 ⟨g, c, rfl, hlent, -, b4⟩
      replace hb1 := hb1.trans (b4.mono hb1.size)
      replace oX := (oX.below b4).alloc (.cells #[.int .u8 N, .int .i64 XA, .int .i64 XB, .slice (some ⟨g, 0, none⟩) n c] 24)
      replace oM := (oM.below b4).alloc (.cells #[.int .u8 N, .int .i64 XA, .int .i64 XB, .slice (some ⟨g, 0, none⟩) n c] 24)
      have oY := Own.new w4 #[.int .u8 N, .int .i64 XA, .int .i64 XB, .slice (some ⟨g, 0, none⟩) n c] 24
      replace hb1 := hb1.alloc hb1.size (.cells #[.int .u8 N, .int .i64 XA, .int .i64 XB, .slice (some ⟨g, 0, none⟩) n c] 24)
      replace hlent : LentR (w4.alloc (.cells #[.int .u8 N, .int .i64 XA, .int .i64 XB, .slice (some ⟨g, 0, none⟩) n c] 24)) g n c ar := Rw.alloc hlent _
      clear x0 x1 x2 x3 xf y0 y1 y2 yf b4 HLENT
      go_upto_region 4 with fail
      generalize w4.alloc (.cells #[.int .u8 N, .int .i64 XA, .int .i64 XB, .slice (some ⟨g, 0, none⟩) n c] 24) = w5 at *
      generalize w4.heap.size = gY at *
      obtain ⟨y0, y1, y2, yf⟩ := own3 oM
      go_wp2_with fail
      refine Calls.mono (HLM w5 hb1) ?_
      rintro e w6 ⟨A', rfl, hmo, hlm, hcp, b6⟩
      have HMO : Hid (A'.mo = MO) := hmo
      have HCP : Hid (A'.tys.length + 1 ≤ A'.tc ∧ A'.txs.length + 1 ≤ A'.sc ∧ A'.fns.length + 1 ≤ A'.fc) := hcp
      obtain ⟨B, hB⟩ : ∃ B, w5.heap.size = B := ⟨_, rfl⟩
      replace hlm : LentM B w6 A' := hB ▸ hlm
      clear hB
      have HT2 : Hid (∀ w, LentR w g n c ar → LentM B w A' → Calls Tryd.prog 10 #[.agg #[.int .u8 N, .int .i64 XA, .int .i64 XB, .slice (some ⟨g, 0, none⟩) n c], .agg #[.slice A'.ta A'.tys.length A'.tc, .slice A'.sa A'.txs.length A'.sc, .slice A'.fa A'.fns.length A'.fc]] w (TkR w L1 L2 Z1 Z2 ER)) := fun w h1 h2 => HT w g c B A' h1 hmo h2 hcp
      have HKM2 : Hid (∀ w, Below W.heap.size W w → LentM B w A' → Calls Tryd.prog 13 #[.agg #[.slice A'.ta A'.tys.length A'.tc, .slice A'.sa A'.txs.length A'.sc, .slice A'.fa A'.fns.length A'.fc], .agg #[.slice A.ta n1 A.tc, .slice A.sa n2 A.sc, .slice A.fa n3 A.fc]] w fun e w' => e = .returned (.bool true) ∧ Below w.heap.size w w') := fun w h1 h2 => HKM w B A' h1 hmo h2 hcp
      clear HT HKM HCP HMO hmo hcp HLM
      generalize A'.tys.length = m1 at *
      generalize A'.txs.length = m2 at *
      generalize A'.fns.length = m3 at *
      have S7 : TkS W (w6.alloc (.cells #[.slice A'.ta m1 A'.tc, .slice A'.sa m2 A'.sc, .slice A'.fa m3 A'.fc] 29)) #[.int .u8 N, .int .i64 XA, .int .i64 XB, .slice ao n cap] #[.slice A.ta n1 A.tc, .slice A.sa n2 A.sc, .slice A.fa n3 A.fc] #[.int .u8 N, .int .i64 XA, .int .i64 XB, .slice (some ⟨g, 0, none⟩) n c] #[.slice A'.ta m1 A'.tc, .slice A'.sa m2 A'.sc, .slice A'.fa m3 A'.fc] gY w6.heap.size g n c B ar A' := by
        have b7 := new_below w6 (.cells #[.slice A'.ta m1 A'.tc, .slice A'.sa m2 A'.sc, .slice A'.fa m3 A'.fc] 29)
        have hb6 := hb1.trans (b6.mono hb1.size)
        exact ⟨(oX.below b6).below b7, (oM.below b6).below b7, (oY.below b6).below b7, Own.new w6 _ _, (hlent.below b6).below b7, hlm.below b7, hb6.trans (b7.mono hb6.size)⟩
      clear y0 y1 y2 yf b6 oX oM oY hlent hlm hb1
      go_upto_region 5 with fail
      generalize w6.alloc (.cells #[.slice A'.ta m1 A'.tc, .slice A'.sa m2 A'.sc, .slice A'.fa m3 A'.fc] 29) = w7 at *
      generalize w6.heap.size = gN at *
      obtain ⟨x0, x1, x2, x3, xf⟩ := own4 S7.ox
      obtain ⟨y0, y1, y2, yf⟩ := own3 S7.om
      go_wp2_with fail
      refine Calls.mono (HRT w7 S7.bel) ?_
      rintro e w8 ⟨a1, c1, a2, c2, rfl, r1, r2, -, -, b8⟩
      have S8 := S7.below b8
      clear x0 x1 x2 x3 xf y0 y1 y2 yf b8 S7 HRT
      obtain ⟨x0, x1, x2, x3, xf⟩ := own4 S8.oy
      obtain ⟨y0, y1, y2, yf⟩ := own3 S8.on
      go_wp2_with fail
      refine Calls.mono (HT2.out w8 S8.lent S8.lm) ?_
      rintro e w9 ⟨a3, c3, a4, c4, rfl, r3, r4, n3', n4', b9⟩
      have HS8 : Hid (TkS W w8 _ _ _ _ _ _ _ _ _ _ _ _) := S8
      replace r1 := r1.belowR b9
      replace r2 := r2.belowR b9
      clear x0 x1 x2 x3 xf y0 y1 y2 yf S8 HT2
      have HN3 : Hid (∀ b, (Value.slice a3 L1 c3).ownBlock = some b → w8.heap.size ≤ b) := n3'
      have HN4 : Hid (∀ b, (Value.slice a4 L2 c4).ownBlock = some b → w8.heap.size ≤ b) := n4'
      clear n3' n4'
      go_wp2_with fail
      refine Calls.mono (HS1.out w9 a3 a1 c3 c1 HL1.out r3 r1) ?_
      rintro e w10 ⟨rfl, b10⟩
      replace r2 := r2.belowR b10
      replace r3 := r3.belowR b10
      replace r4 := r4.belowR b10
      replace b9 := b9.trans (b10.mono b9.size)
      clear r1 b10
      go_wp2_with fail
      refine Calls.mono (HS2.out w10 a4 a2 c4 c2 HL2.out r4 r2) ?_
      rintro e w11 ⟨rfl, b11⟩
      replace r3 := r3.belowR b11
      replace r4 := r4.belowR b11
      replace b9 := b9.trans (b11.mono b9.size)
      have REL : Hid (SpI w8 (.slice a3 L1 c3) (.slice a4 L2 c4) L1 L2 w11) := ⟨b9, ⟨_, r3⟩, ⟨_, r4⟩⟩
      clear r2 b11 b9 r3 r4 HS1 HS2
      go_wp2_with fail
      go_loopw [13] (fun i wr => ∃ k : Nat, k ≤ L1 ∧ i = .int .i64 (k : Int) ∧ SpI w8 (.slice a3 L1 c3) (.slice a4 L2 c4) L1 L2 wr) (fun i _ => L1 - (intOf i).toNat)
      case atStart => exact ⟨0, Nat.zero_le _, rfl, REL.out⟩
      case round =>
        clear REL
        obtain ⟨k, hk, rfl, hb, ⟨zs, hR⟩, hR2⟩ := hrel
        have HR4 : Hid (∃ zs, Rw wr 3 1 (.slice a4 L2 c4) L2 zs) := hR2
        have HB : Hid (Below w8.heap.size w8 wr) := hb
        clear hR2 hb
        by_cases hlt : k < L1
        · obtain ⟨g2, cap2, cur, e, -⟩ := hR.block (by omega)
          cases e
          have hR2 : wr.ownsRow 0 3 1 (.slice (some ⟨g2, 0, none⟩) L1 c3) L1 zs := hR
          have hc : ∃ u, wr.cell? ⟨g2, k, none⟩ = some u := by
            rw [hR2.cellAt k (by omega)]
            have : k < zs.length := by rw [hR2.1]; omega
            exact ⟨_, List.getElem?_eq_getElem this⟩
          obtain ⟨u, hc⟩ := hc
          have hf := hR2.frozenAt k
          have RES : Hid (SpI w8 (.slice (some ⟨g2, 0, none⟩) L1 c3) (.slice a4 L2 c4) L1 L2 (wr.setCell ⟨g2, k, none⟩ (.int .i64 (-9)))) := by
            obtain ⟨z4, h4⟩ := HR4.out
            exact ⟨HB.out.setCell (p := ⟨g2, k, none⟩) (HN3.out g2 rfl) _, hR.anyset g2 k _, h4.anyset g2 k _⟩
          have hlt2 : (k : Int) < (L1 : Int) := by omega
          have hk0 : (0 : Int) ≤ (k : Int) := by omega
          have hLs : L1 ≤ 100003 := HL1.out
          clear hR hR2 HR4 HB HN3 HN4
          go_wp2
          go_roundw
          case rel => exact ⟨k + 1, hlt, by go_num, RES.out⟩
          case measure => simp [intOf]; omega
        · obtain rfl : k = L1 := by omega
          clear hR HN3 HL1 hlt hk
          obtain ⟨z4, h4⟩ := HR4.out
          have REL : Hid (Below w8.heap.size w8 wr ∧ ∃ zs, Rw wr 3 1 (.slice a4 L2 c4) L2 zs) := ⟨HB.out, z4, h4⟩
          clear h4 HR4 HB
          go_wp2_with fail
          go_loopw [14] (fun i wr => ∃ j : Nat, j ≤ L2 ∧ i = .int .i64 (j : Int) ∧ Below w8.heap.size w8 wr ∧ ∃ zs, Rw wr 3 1 (.slice a4 L2 c4) L2 zs) (fun i _ => L2 - (intOf i).toNat)
          case atStart => exact ⟨0, Nat.zero_le _, rfl, REL.out⟩
          case round =>
            clear REL
            obtain ⟨j, hj, rfl, hb, ⟨zs, hR⟩⟩ := hrel
            have HB : Hid (Below w8.heap.size w8 wr) := hb
            clear hb
            by_cases hlt : j < L2
            · obtain ⟨g2, cap2, cur, e, -⟩ := hR.block (by omega)
              cases e
              have hR2 : wr.ownsRow 0 3 1 (.slice (some ⟨g2, 0, none⟩) L2 c4) L2 zs := hR
              have hc : ∃ u, wr.cell? ⟨g2, j, none⟩ = some u := by
                rw [hR2.cellAt j (by omega)]
                have : j < zs.length := by rw [hR2.1]; omega
                exact ⟨_, List.getElem?_eq_getElem this⟩
              obtain ⟨u, hc⟩ := hc
              have hf := hR2.frozenAt j
              have RES : Hid (Below w8.heap.size w8 (wr.setCell ⟨g2, j, none⟩ (.int .i64 (-9))) ∧ ∃ zs, Rw (wr.setCell ⟨g2, j, none⟩ (.int .i64 (-9))) 3 1 (.slice (some ⟨g2, 0, none⟩) L2 c4) L2 zs) :=
                ⟨HB.out.setCell (p := ⟨g2, j, none⟩) (HN4.out g2 rfl) _, hR.anyset g2 j _⟩
              have hlt2 : (j : Int) < (L2 : Int) := by omega
              have hj0 : (0 : Int) ≤ (j : Int) := by omega
              have hLs : L2 ≤ 100003 := HL2.out
              clear hR hR2 HB HN4
              go_wp2
              go_roundw
              case rel => exact ⟨j + 1, hlt, by go_num, RES.out⟩
              case measure => simp [intOf]; omega
            · obtain rfl : j = L2 := by omega
              clear hR HN4 HL2 hlt hj
              have S := HS8.out.below HB.out
              clear HS8 HB
              obtain ⟨x0, x1, x2, x3, xf⟩ := own4 S.ox
              obtain ⟨y0, y1, y2, y3, yf⟩ := own4 S.oy
              go_wp2_with fail
              refine Calls.mono (HKI wr g c S.bel S.lent) ?_
              rintro e w13 ⟨rfl, b13⟩
              replace S := S.below b13
              clear x0 x1 x2 x3 xf y0 y1 y2 y3 yf b13
              obtain ⟨x0, x1, x2, xf⟩ := own3 S.om
              obtain ⟨y0, y1, y2, yf⟩ := own3 S.on
              go_wp2_with fail
              refine Calls.mono (HKM2.out w13 S.bel S.lm) ?_
              rintro e w14 ⟨rfl, b14⟩
              replace S := S.below b14
              clear x0 x1 x2 xf y0 y1 y2 yf b14
              go_wp2_with fail
              refine Calls.mono (HWORKS.out w14 S.bel) ?_
              rintro e w15 ⟨rfl, b15⟩
              replace S := (S.below b15).bel
              go_wp2
              go_ret
              exact ⟨rfl, S⟩
end Go.Proofs.YtjfdlphkmpkjdaaDoor
