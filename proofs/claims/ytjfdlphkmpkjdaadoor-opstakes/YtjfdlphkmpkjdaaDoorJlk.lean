/-
  CONTRACTS of the kit's LentInstr and KeptInstr.
  CONTRACT of the kit's KeptInstr.
-/
import Derived.Test.YtjfdlphkmpkjdaaDoorJrt
import Derived.Test.YtjfdlphkmpkjdaaDoorAg
import Derived.Test.YtjfdlphkmpkjdaaDoorSm
namespace Go.Proofs.YtjfdlphkmpkjdaaDoor
open Go.RowKit
set_option linter.unusedVariables false

/-- append of arms that lie anywhere (or of none) to nothing. -/
theorem run_appR (W : World) (ty : TypeId) (ao : Option Addr) (m c : Nat) (ar : List (Int × Int)) (hl : ArmLies W ao ar) (hm : m = ar.length) (hno : ao = none → c = 0) (hn : m ≤ 1000000) :
    ∃ ao' c' w', (Builtin.append_ #[22, 22] ty #[.slice none 0 0, .slice ao m c]).run Tryd.prog W = .ok (.slice ao' m c') w' ∧ Rw w' 44 2 (.slice ao' m c') m (armC ar) ∧ Below W.heap.size W w' ∧ (∀ b, (Value.slice ao' m c').ownBlock = some b → W.heap.size ≤ b) := by
  have hown : Rw W 44 2 (.slice none 0 0) 0 [] := ⟨rfl, .inl ⟨rfl, rfl⟩⟩
  cases ao with
  | none =>
    have hm0 : m = 0 := by
      rcases hl.lies with h0 | ⟨b, off, h0, _⟩
      · rw [hm, h0]; rfl
      · exact (Option.some_ne_none _ h0.symm).elim
    have hc0 := hno rfl
    subst hm0; subst hc0
    have hy : ar = [] := List.eq_nil_of_length_eq_zero hm.symm
    subst hy
    have hr : (Builtin.append_ #[22, 22] ty #[.slice none 0 0, .slice none 0 0]).run Tryd.prog W = .ok (.slice none 0 0) W := by
      obtain ⟨i8, hi, hz0, hz1, hz2⟩ := info_parts okA.info
      exact run_append_owned_none (P := Tryd.prog) (w := W) 0 22 ty 44 i8 2 Tryd.underlying22 hi _ _ _ hown
    exact ⟨none, 0, W, hr, hown, Below.refl _ _, fun b q => by cases q⟩
  | some ad =>
    have hcell : ∀ j u, (armC ar)[j]? = some u → W.cell? (ad.add j) = some u := by
      intro j u hu
      rcases hl.lies with h0 | ⟨b, off, h0, _, hc⟩
      · rw [h0] at hu; cases hu
      · cases h0
        have hj : j < ar.length * 2 := by
          by_cases hj : j < ar.length * 2
          · exact hj
          · rw [List.getElem?_eq_none (by rw [armC_length]; omega)] at hu; cases hu
        have hadd : (⟨b, off, none⟩ : Addr).add j = ⟨b, off + j, none⟩ := by unfold Addr.add; split <;> simp_all
        rw [hadd]
        have hj2 : j / 2 < ar.length := by omega
        have g := armC_get ar (j / 2) hj2
        have q := hc (j / 2) hj2
        rcases (by omega : j = j / 2 * 2 ∨ j = j / 2 * 2 + 1) with e | e
        · rw [e] at hu ⊢
          rw [g.1] at hu; rw [← hu]; exact q.1
        · rw [e] at hu ⊢
          rw [g.2] at hu; rw [← hu, ← Nat.add_assoc]; exact q.2
    obtain ⟨v', w', hr, g1, g2, g3⟩ := run_appA okA W ty (.slice none 0 0) 0 [] hown ad m c (armC ar) (by rw [armC_length, hm]) hcell (armC_one ar) (by omega)
    rw [Nat.zero_add, List.nil_append] at g1
    obtain ⟨ao', c', rfl, -⟩ := g1.shape
    refine ⟨ao', c', w', hr, g1, (Below.refl _ _).grown g2 (Nat.le_refl _) (fun k e => by cases e), fun b q => ?_⟩
    rcases g3 with g3 | g3
    · rw [g3] at q; cases q
    · rw [g3] at q; cases q; exact Nat.le_refl _
theorem wpList_appR {W : World} {ops : Array Oper} {rest : List Oper} {o : Oper} {a : Act} {Q : Exit → Act → World → Prop} (hgd : o.guard = none) (s x : Operand)
    (ho : o.op = .call { callee := .builtin .append, args := #[s, x], argTypes := #[22, 22] }) (hs : a.eval s = .slice none 0 0) (ao : Option Addr) (m c : Nat) (ar : List (Int × Int)) (hx : a.eval x = .slice ao m c) (hl : ArmLies W ao ar) (hm : m = ar.length) (hno : ao = none → c = 0) (hn : m ≤ 1000000)
    (h : ∀ ao' c' w', Rw w' 44 2 (.slice ao' m c') m (armC ar) → Below W.heap.size W w' → (∀ b, (Value.slice ao' m c').ownBlock = some b → W.heap.size ≤ b) → wpList Tryd.prog ops Q rest (a.put o.dst (.slice ao' m c')) w') :
    wpList Tryd.prog ops Q (o :: rest) a W := by
  obtain ⟨ao', c', w', hrun, g1, g2, g4⟩ := run_appR W o.type ao m c ar hl hm hno hn
  refine wpList_plain hgd fun K hK => ?_
  unfold Oper.wp execOp
  simp only [ho, resolve, invoke, builtin, Sem.run_bind, Sem.run_pure, Result.andThen_ok, List.map_toArray, List.map_cons, List.map_nil, hs, hx, hrun]
  exact hK _ _ (h ao' c' w' g1 g2 g4)
/-- Where the lending stands: the three blocks, the row of arms. -/
structure LSt (w W : World) (X R Y : Array Value) (v : Value) (m : Nat) (ar : List (Int × Int)) : Prop where
  ox : Own W w.heap.size X 24
  or : Own W (w.heap.size + 1) R 24
  oy : Own W (w.heap.size + 1 + 1) Y 24
  row : Rw W 44 2 v m (armC ar)
  new : ∀ b, v.ownBlock = some b → w.heap.size ≤ b
  bel : Below w.heap.size w W
theorem LSt.setY {w W : World} {X R : Array Value} {y0 y1 y2 y3 : Value} {v : Value} {m : Nat} {ar : List (Int × Int)} (h : LSt w W X R #[y0, y1, y2, y3] v m ar) (u : Value) : LSt w (W.setCell ⟨w.heap.size + 1 + 1, 3, none⟩ u) X R #[y0, y1, y2, u] v m ar :=
  ⟨h.ox.other (by omega) u, h.or.other (by omega) u, by simpa using h.oy.set 3 u, h.row.set (h.row.ne h.oy (by decide)) 3 u, h.new, h.bel.setCell (p := ⟨w.heap.size + 1 + 1, 3, none⟩) (by show w.heap.size ≤ w.heap.size + 1 + 1; omega) u⟩
theorem LSt.grown {w W W' : World} {X R Y : Array Value} {v v' : Value} {m m' : Nat} {ar ar' : List (Int × Int)} (h : LSt w W X R Y v m ar) (hr : Rw W' 44 2 v' m' (armC ar')) (hg : W.grownBy W' v.ownBlock) (hv : v'.ownBlock = v.ownBlock ∨ v'.ownBlock = some W.heap.size) : LSt w W' X R Y v' m' ar' := by
  refine ⟨h.ox.grown hg (fun e => h.row.ne h.ox (by decide) e.symm), h.or.grown hg (fun e => h.row.ne h.or (by decide) e.symm), h.oy.grown hg (fun e => h.row.ne h.oy (by decide) e.symm), hr, fun b q => ?_, h.bel.grown hg h.bel.size (fun k e => h.new k e)⟩
  rcases hv with e | e
  · rw [e] at q; exact h.new b q
  · rw [e] at q; cases q; exact h.bel.size
theorem LSt.alloc {w W : World} {X R Y : Array Value} {v : Value} {m : Nat} {ar : List (Int × Int)} (h : LSt w W X R Y v m ar) (o : Obj) : LSt w (W.alloc o) X R Y v m ar :=
  ⟨h.ox.alloc o, h.or.alloc o, h.oy.alloc o, h.row.alloc o, h.new, h.bel.alloc h.bel.size o⟩
set_option maxHeartbeats 2000000 in
set_option maxRecDepth 100000 in
theorem klent_as {w : World} {x : In} {ao : Option Addr} {cp : Nat} (hl : InAt w x ao cp) (n : Nat) (hn : n = x.arms.length) (hmx : n ≤ 100000) :
    Calls Tryd.prog 7 #[insV x (.slice ao n cp)] w fun e w' => ∃ g c, e = .returned (insV x (.slice (some ⟨g, 0, none⟩) n c)) ∧ Rw w' 44 2 (.slice (some ⟨g, 0, none⟩) (n + 1) c) (n + 1) (armC (x.arms ++ [(77, 0)])) ∧ w.heap.size ≤ g ∧ Below w.heap.size w w' := by
  have HN : Hid (n = x.arms.length) := hn
  have HNO : Hid (ao = none → cp = 0) := hl.none
  have HAL : Hid (∀ W, Below w.heap.size w W → ArmLies W ao x.arms) := fun W h => hl.lies.arms.below h
  unfold insV
  generalize (x.op : Int) = N at *
  generalize x.a = XA at *
  generalize x.b = XB at *
  generalize x.arms = ar at *
  clear hn hl
  have L3 : LSt w (((w.alloc (.cells #[.int .u8 N, .int .i64 XA, .int .i64 XB, .slice ao n cp] 24)).alloc (.cells #[.int .u8 0, .int .i64 0, .int .i64 0, .slice none 0 0] 24)).alloc (.cells #[.int .u8 N, .int .i64 XA, .int .i64 XB, .slice none 0 0] 24)) #[.int .u8 N, .int .i64 XA, .int .i64 XB, .slice ao n cp] #[.int .u8 0, .int .i64 0, .int .i64 0, .slice none 0 0] #[.int .u8 N, .int .i64 XA, .int .i64 XB, .slice none 0 0] (.slice none 0 0) 0 [] := by
    refine ⟨((Own.new w _ _).alloc _).alloc _, ?_, ?_, ⟨rfl, .inl ⟨rfl, rfl⟩⟩, fun b q => (by cases q), ((new_below w _).alloc (by simp) _).alloc (by simp; omega) _⟩
    · have := (Own.new (w.alloc (.cells #[.int .u8 N, .int .i64 XA, .int .i64 XB, .slice ao n cp] 24)) #[.int .u8 0, .int .i64 0, .int .i64 0, .slice none 0 0] 24).alloc (.cells #[.int .u8 N, .int .i64 XA, .int .i64 XB, .slice none 0 0] 24)
      rwa [World.size_alloc] at this
    · have := Own.new ((w.alloc (.cells #[.int .u8 N, .int .i64 XA, .int .i64 XB, .slice ao n cp] 24)).alloc (.cells #[.int .u8 0, .int .i64 0, .int .i64 0, .slice none 0 0] 24)) #[.int .u8 N, .int .i64 XA, .int .i64 XB, .slice none 0 0] 24
      rwa [World.size_alloc, World.size_alloc] at this
  go_enter Tryd.func7, Tryd.ntmps7
  go_upto_region 2 with fail
  generalize ((w.alloc (.cells #[.int .u8 N, .int .i64 XA, .int .i64 XB, .slice ao n cp] 24)).alloc (.cells #[.int .u8 0, .int .i64 0, .int .i64 0, .slice none 0 0] 24)).alloc (.cells #[.int .u8 N, .int .i64 XA, .int .i64 XB, .slice none 0 0] 24) = w3 at *
  obtain ⟨x0, x1, x2, x3, xf⟩ := own4 L3.ox
  obtain ⟨y0, y1, y2, y3, yf⟩ := own4 L3.oy
  have HL3 : Hid (ArmLies w3 ao ar) := HAL.out w3 L3.bel
  have HF : Hid (∀ (a1 : Option Addr) (c1 : Nat) (w4 : World), Rw w4 44 2 (.slice a1 n c1) n (armC ar) → Below w3.heap.size w3 w4 → (∀ b, (Value.slice a1 n c1).ownBlock = some b → w3.heap.size ≤ b) → LSt w w4 #[.int .u8 N, .int .i64 XA, .int .i64 XB, .slice ao n cp] #[.int .u8 0, .int .i64 0, .int .i64 0, .slice none 0 0] #[.int .u8 N, .int .i64 XA, .int .i64 XB, .slice none 0 0] (.slice a1 n c1) n ar) := by
    intro a1 c1 w4 h1 h2 h3
    exact ⟨L3.ox.below h2, L3.or.below h2, L3.oy.below h2, h1, fun b q => Nat.le_trans L3.bel.size (h3 b q), L3.bel.trans (h2.mono L3.bel.size)⟩
  clear L3
  go_upto_region 3 with (refine wpList_appR (by rfl) (.tmp 12) (.tmp 14) (by rfl) (by rfl) ao n cp ar (by rfl) HL3.out HN.out HNO.out (by omega) ?_; intro a1 c1 w4 q1 q2 q3; have L4 := HF.out a1 c1 w4 q1 q2 q3; clear q1 q2 q3 HF HL3 x0 x1 x2 x3 xf y0 y1 y2 y3 yf; obtain ⟨y0, y1, y2, y3, yf⟩ := own4 L4.oy)
  have L5 := L4.setY (.slice a1 n c1)
  generalize w4.setCell ⟨w.heap.size + 1 + 1, 3, none⟩ (.slice a1 n c1) = w5 at *
  clear L4 y0 y1 y2 y3 yf
  obtain ⟨y0, y1, y2, y3, yf⟩ := own4 L5.oy
  have oM := Own.new w5 #[.int .i64 77, .int .i64 0] 44
  have L5a := L5.alloc (.cells #[.int .i64 77, .int .i64 0] 44)
  have HG : Hid (∀ (a2 : Option Addr) (c2 : Nat) (w6 : World), Rw w6 44 2 (.slice a2 (n + 1) c2) (n + 1) (armC ar ++ [.int .i64 77, .int .i64 0]) → (w5.alloc (.cells #[.int .i64 77, .int .i64 0] 44)).grownBy w6 (Value.slice a1 n c1).ownBlock → ((Value.slice a2 (n + 1) c2).ownBlock = (Value.slice a1 n c1).ownBlock ∨ (Value.slice a2 (n + 1) c2).ownBlock = some (w5.alloc (.cells #[.int .i64 77, .int .i64 0] 44)).heap.size) → LSt w w6 #[.int .u8 N, .int .i64 XA, .int .i64 XB, .slice ao n cp] #[.int .u8 0, .int .i64 0, .int .i64 0, .slice none 0 0] #[.int .u8 N, .int .i64 XA, .int .i64 XB, .slice a1 n c1] (.slice a2 (n + 1) c2) (n + 1) (ar ++ [(77, 0)])) := by
    intro a2 c2 w6 q1 q2 q3
    exact L5a.grown (by rw [armC_append]; exact q1) q2 q3
  have rM := L5a.row
  clear L5 L5a
  go_upto_region 4 with (refine wpList_app1 okA (by rfl) (.tmp 18) (.tmp 20) (by rfl) _ n (armC ar) (by rfl) rM w5.heap.size [.int .i64 77, .int .i64 0] (by rfl) oM rfl (by simp [Value.oneCell']) (by omega) ?_; intro a2 c2 w6 q1 q2 q3; have L6 := HG.out a2 c2 w6 q1 q2 (by simpa using q3); clear q1 q2 q3 HG rM oM y0 y1 y2 y3 yf; obtain ⟨y0, y1, y2, y3, yf⟩ := own4 L6.oy)
  have L7 := L6.setY (.slice a2 (n + 1) c2)
  generalize w6.setCell ⟨w.heap.size + 1 + 1, 3, none⟩ (.slice a2 (n + 1) c2) = w7 at *
  clear L6 y0 y1 y2 y3 yf
  obtain ⟨g, cap, cur, e, -, hcap, -⟩ := L7.row.block (by omega)
  cases e
  have hg : w.heap.size ≤ g := L7.new g rfl
  obtain ⟨x0, x1, x2, x3, xf⟩ := own4 L7.ox
  obtain ⟨y0, y1, y2, y3, yf⟩ := own4 L7.oy
  have L8 := L7.setY (.slice (some ⟨g, 0, none⟩) n c2)
  have hc1 : (n : Int) ≤ (c2 : Int) := by omega
  have hc2 : n ≤ c2 := by omega
  have hc3 : ¬ c2 = 0 := by omega
  clear L7
  go_upto_region 5 with fail
  generalize w7.setCell ⟨w.heap.size + 1 + 1, 3, none⟩ (.slice (some ⟨g, 0, none⟩) n c2) = w8 at *
  clear x0 x1 x2 x3 xf y0 y1 y2 y3 yf
  obtain ⟨y0, y1, y2, y3, yf⟩ := own4 L8.oy
  have oR := L8.or
  go_wp2_with (refine wpList_put rfl 24 (.tmp 2) (.tmp 30) rfl rfl (w.heap.size + 1) 0 rfl rfl oR (by kernel_rfl) rfl (by simp) rfl ?_; intro w9 p9 g9; clear oR)
  refine bodyPost_cell1 (g := w.heap.size + 1) (t := 24) rfl rfl rfl p9 Tryd.underlying24 rfl (by kernel_rfl) ?_
  refine ⟨g, c2, rfl, L8.row.grown g9 (fun k e q => L8.row.ne L8.or (by decide) (e.trans (by rw [q]))), hg, L8.bel.grown g9 L8.bel.size (fun k e => by cases e; omega)⟩
end Go.Proofs.YtjfdlphkmpkjdaaDoor
namespace Go.Proofs.YtjfdlphkmpkjdaaDoor
open Go.RowKit
set_option linter.unusedVariables false

/-- An instruction's arms that are lent: a row with the mark behind. -/
def LentR (w : World) (g n c : Nat) (ar : List (Int × Int)) : Prop := Rw w 44 2 (.slice (some ⟨g, 0, none⟩) (n + 1) c) (n + 1) (armC (ar ++ [(77, 0)]))
theorem LentR.below {w w' : World} {g n c : Nat} {ar : List (Int × Int)} (h : LentR w g n c ar) (hb : Below w.heap.size w w') : LentR w' g n c ar := Rw.on h fun k e => hb.block k (Rw.lt h e)
theorem LentR.arms {w : World} {g n c : Nat} {ar : List (Int × Int)} (h : LentR w g n c ar) (hn : n = ar.length) (hm : ∀ y ∈ ar, (-9223372036854775808 ≤ y.1 ∧ y.1 ≤ 9223372036854775807) ∧ (-9223372036854775808 ≤ y.2 ∧ y.2 ≤ 9223372036854775807)) : ArmLies w (some ⟨g, 0, none⟩) ar := by
  refine ⟨hm, .inr ⟨g, 0, rfl, Rw.lt h rfl, fun i hi => ?_⟩⟩
  have q := armC_get (ar ++ [(77, 0)]) i (by simp; omega)
  have e : (ar ++ [((77 : Int), (0 : Int))]).getD i (0, 0) = ar.getD i (0, 0) := by simp [List.getD, List.getElem?_append, hi]
  rw [e] at q
  exact ⟨by rw [Nat.zero_add]; exact Rw.cells h _ _ q.1, by rw [Nat.zero_add]; exact Rw.cells h _ _ q.2⟩
theorem LentR.mark {w : World} {g n c : Nat} {ar : List (Int × Int)} (h : LentR w g n c ar) (hn : n = ar.length) : w.cell? ⟨g, n * 2, none⟩ = some (.int .i64 77) := by
  have q := armC_get (ar ++ [(77, 0)]) n (by simp; omega)
  have e : (ar ++ [((77 : Int), (0 : Int))]).getD n (0, 0) = (77, 0) := by rw [hn]; simp [List.getD]
  rw [e] at q
  exact Rw.cells h _ _ q.1
set_option maxHeartbeats 2000000 in
set_option maxRecDepth 100000 in
theorem kkept_as {w : World} {x : In} {ao : Option Addr} {cp : Nat} (hl : InLies w x ao) (n : Nat) (hn : n = x.arms.length) (hmx : n ≤ 100000) (g c : Nat) (hlent : LentR w g n c x.arms) :
    Calls Tryd.prog 12 #[insV x (.slice (some ⟨g, 0, none⟩) n c), insV x (.slice ao n cp)] w fun e w' => e = .returned (.bool true) ∧ Below w.heap.size w w' := by
  have o1 := (Own.new w #[.int .u8 (x.op : Int), .int .i64 x.a, .int .i64 x.b, .slice (some ⟨g, 0, none⟩) n c] 24).alloc (.cells #[.int .u8 (x.op : Int), .int .i64 x.a, .int .i64 x.b, .slice ao n cp] 24)
  have o2 := Own.new (w.alloc (.cells #[.int .u8 (x.op : Int), .int .i64 x.a, .int .i64 x.b, .slice (some ⟨g, 0, none⟩) n c] 24)) #[.int .u8 (x.op : Int), .int .i64 x.a, .int .i64 x.b, .slice ao n cp] 24
  rw [World.size_alloc] at o2
  have hb0 : Below w.heap.size w ((w.alloc (.cells #[.int .u8 (x.op : Int), .int .i64 x.a, .int .i64 x.b, .slice (some ⟨g, 0, none⟩) n c] 24)).alloc (.cells #[.int .u8 (x.op : Int), .int .i64 x.a, .int .i64 x.b, .slice ao n cp] 24)) := (new_below _ _).alloc (by simp) _
  have hcap : n + 1 ≤ c := by
    obtain ⟨a', c', e, h1, h2⟩ := Rw.shape hlent
    cases e; exact h1
  have HS : Hid (∀ W, Below w.heap.size w W → Calls Tryd.prog 18 #[.agg #[.int .u8 (x.op : Int), .int .i64 x.a, .int .i64 x.b, .slice (some ⟨g, 0, none⟩) n c], .agg #[.int .u8 (x.op : Int), .int .i64 x.a, .int .i64 x.b, .slice ao n cp]] W fun e w' => e = .returned (.bool true) ∧ Below W.heap.size W w') := fun W h =>
    sameIns_eq hn ((hlent.below h).arms hn hl.arms.nums) (hl.arms.below h) (by omega)
  have HM : Hid (∀ W, Below w.heap.size w W → W.cell? ⟨g, n * 2, none⟩ = some (.int .i64 77)) := fun W h => (hlent.below h).mark hn
  unfold insV
  generalize (x.op : Int) = N at *
  generalize x.a = XA at *
  generalize x.b = XB at *
  clear hn hl hlent
  go_enter Tryd.func12, Tryd.ntmps12
  go_upto_region 1 with fail
  generalize (w.alloc (.cells #[.int .u8 N, .int .i64 XA, .int .i64 XB, .slice (some ⟨g, 0, none⟩) n c] 24)).alloc (.cells #[.int .u8 N, .int .i64 XA, .int .i64 XB, .slice ao n cp] 24) = w2 at *
  obtain ⟨x0, x1, x2, x3⟩ := cells4 o1
  obtain ⟨y0, y1, y2, y3⟩ := cells4 o2
  have m0 : ∀ t : After w2, t.1.cell? ⟨g, n * 2, none⟩ = some (.int .i64 77) := fun t => HM.out t.1 (hb0.trans (t.2.mono hb0.size))
  have HQ : Hid (∀ t : After w2, Calls Tryd.prog 18 #[.agg #[.int .u8 N, .int .i64 XA, .int .i64 XB, .slice (some ⟨g, 0, none⟩) n c], .agg #[.int .u8 N, .int .i64 XA, .int .i64 XB, .slice ao n cp]] t.1 fun e w'' => e = .returned (.bool true) ∧ ∃ t' : After w2, w'' = t'.1) := fun t => quiet_new t (HS.out t.1 (hb0.trans (t.2.mono hb0.size)))
  have e1 : (n : Int) + 1 ≤ (c : Int) := by omega
  have e2 : n + 1 ≤ c := hcap
  have e3 : ¬ c = 0 := by omega
  have e4 : (0 : Int) ≤ (n : Int) := by omega
  have e5 : (0 : Int) ≤ (n : Int) + 1 := by omega
  have e6 : (n : Int) < (n : Int) + 1 := by omega
  have e7 : n < n + 1 := by omega
  clear o1 o2 HS HM hcap
  refine wp_region_after (by kernel_rfl) (by kernel_rfl) ?_
  repeat (go_big_quiet_step (with_reducible exact rfl))
  go_big_quiet_step (exact HQ.out _)
  repeat (go_big_quiet_step (with_reducible exact rfl))
  refine wpQuiet_nil ?_
  rintro _ ⟨⟨w4, b4⟩, rfl⟩
  go_wp2
  go_ret
  exact ⟨rfl, hb0.trans (b4.mono hb0.size)⟩
end Go.Proofs.YtjfdlphkmpkjdaaDoor
