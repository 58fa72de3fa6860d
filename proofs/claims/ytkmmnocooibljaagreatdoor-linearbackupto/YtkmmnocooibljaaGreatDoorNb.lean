/-
  LINES in memory; two rows of lines held against each other; how many lines and arms.
-/
import Derived.Test.YtkmmnocooibljaaGreatDoorNa
namespace Go.Proofs.YtkmmnocooibljaaGreatDoor
open Go.RowKit
set_option linter.unusedVariables false

structure LnP where
  lab : Int
  x : In
  ao : Option Addr
  cp : Nat
def zLn : LnP := ⟨0, zI, none, 0⟩
def LnP.l (y : LnP) : Int × In := (y.lab, y.x)
abbrev LnP.cs (y : LnP) : Array Value := #[.int .i64 y.lab, .int .u8 (y.x.op : Int), .int .i64 y.x.a, .int .i64 y.x.b, .slice y.ao y.x.arms.length y.cp]
def lnF (l : List LnP) (i d : Nat) : Value := match d with
  | 0 => .int .i64 (l.getD i zLn).lab
  | 1 => .int .u8 ((l.getD i zLn).x.op : Int)
  | 2 => .int .i64 (l.getD i zLn).x.a
  | 3 => .int .i64 (l.getD i zLn).x.b
  | _ => .slice (l.getD i zLn).ao (l.getD i zLn).x.arms.length (l.getD i zLn).cp
structure LnIn (w : World) (y : LnP) : Prop where
  lab : N64 y.lab
  ins : InLies w y.x y.ao
  few : y.x.arms.length ≤ 140737488355328
theorem LnIn.below {w w' : World} {y : LnP} (h : LnIn w y) (hb : Below w.heap.size w w') : LnIn w' y := ⟨h.lab, h.ins.below hb, h.few⟩
structure LnsIn (w : World) (a : Option Addr) (ls : List LnP) : Prop where
  row : RowAt w a 5 ls.length (lnF ls)
  each : ∀ y ∈ ls, LnIn w y
  mx : ls.length ≤ 140737488355328
theorem LnsIn.below {w w' : World} {a : Option Addr} {ls : List LnP} (h : LnsIn w a ls) (hb : Below w.heap.size w w') : LnsIn w' a ls := ⟨h.row.below hb, fun y hy => (h.each y hy).below hb, h.mx⟩
theorem lown5 {w : World} {g : Nat} {a0 a1 a2 a3 a4 : Value} {t : TypeId} (h : Own w g #[a0, a1, a2, a3, a4] t) : w.cell? ⟨g, 0, none⟩ = some a0 ∧ w.cell? ⟨g, 1, none⟩ = some a1 ∧ w.cell? ⟨g, 2, none⟩ = some a2 ∧ w.cell? ⟨g, 3, none⟩ = some a3 ∧ w.cell? ⟨g, 4, none⟩ = some a4 ∧ ∀ j, w.frozen? ⟨g, j, none⟩ = false := ⟨h.cell 0, h.cell 1, h.cell 2, h.cell 3, h.cell 4, h.froz⟩
set_option maxHeartbeats 4000000 in
set_option maxRecDepth 100000 in
theorem lnsameLine_as {w : World} {X Y : LnP} (hx : LnIn w X) (hy : LnIn w Y) (b : Bool) (hb : b = true ↔ X.l = Y.l) :
    Calls Tryz.prog 59 #[.agg X.cs, .agg Y.cs] w fun e w' => e = .returned (.bool b) ∧ Below w.heap.size w w' := by
  obtain ⟨L, ⟨op, XA, XB, ar⟩, a, c⟩ := X
  obtain ⟨L', ⟨op', YA, YB, ar'⟩, a', c'⟩ := Y
  have hb' : b = true ↔ L = L' ∧ op = op' ∧ XA = YA ∧ XB = YB ∧ ar = ar' := by
    rw [hb]
    simp [LnP.l]
  have hx4 : ArmLies w a ar := hx.ins.arms
  have hy4 : ArmLies w a' ar' := hy.ins.arms
  have hm : ar.length ≤ 140737488355328 := hx.few
  show Calls Tryz.prog 59 #[.agg #[.int .i64 L, .int .u8 (op : Int), .int .i64 XA, .int .i64 XB, .slice a ar.length c], .agg #[.int .i64 L', .int .u8 (op' : Int), .int .i64 YA, .int .i64 YB, .slice a' ar'.length c']] w _
  have o1 := (Own.new w #[.int .i64 L, .int .u8 (op : Int), .int .i64 XA, .int .i64 XB, .slice a ar.length c] 56).alloc (.cells #[.int .i64 L', .int .u8 (op' : Int), .int .i64 YA, .int .i64 YB, .slice a' ar'.length c'] 56)
  have o2 := Own.new (w.alloc (.cells #[.int .i64 L, .int .u8 (op : Int), .int .i64 XA, .int .i64 XB, .slice a ar.length c] 56)) #[.int .i64 L', .int .u8 (op' : Int), .int .i64 YA, .int .i64 YB, .slice a' ar'.length c'] 56
  rw [World.size_alloc] at o2
  have hb0 : Below w.heap.size w ((w.alloc (.cells #[.int .i64 L, .int .u8 (op : Int), .int .i64 XA, .int .i64 XB, .slice a ar.length c] 56)).alloc (.cells #[.int .i64 L', .int .u8 (op' : Int), .int .i64 YA, .int .i64 YB, .slice a' ar'.length c'] 56)) := (new_below _ _).alloc (by simp) _
  obtain ⟨t, ht⟩ := some_bool (ar = ar')
  have HEQ : Hid (∀ W, Below w.heap.size w W → Calls Tryz.prog 85 #[.slice a ar.length c, .slice a' ar'.length c'] W fun e w' => e = .returned (.bool t) ∧ Below W.heap.size W w') := fun W q => eqArms_as rfl rfl (hx4.below q) (hy4.below q) hm t ht
  have HB : Hid (b = true ↔ L = L' ∧ op = op' ∧ XA = YA ∧ XB = YB ∧ t = true) := by rw [Hid, ht]; exact hb'
  have HOP : Hid (op = op' ↔ (op : Int) = (op' : Int)) := by unfold Hid; omega
  clear hx hy hx4 hy4 hm hb hb' ht
  generalize ar.length = n at *
  generalize ar'.length = n' at *
  obtain ⟨N, hN⟩ : ∃ N : Int, (op : Int) = N := ⟨_, rfl⟩
  obtain ⟨N', hN'⟩ : ∃ N : Int, (op' : Int) = N := ⟨_, rfl⟩
  rw [hN] at o1 o2 hb0 HOP ⊢
  rw [hN'] at o1 o2 hb0 HOP ⊢
  clear hN hN'
  go_enter Tryz.func59, Tryz.ntmps59
  go_upto_region 1 with fail
  generalize (w.alloc (.cells #[.int .i64 L, .int .u8 N, .int .i64 XA, .int .i64 XB, .slice a n c] 56)).alloc (.cells #[.int .i64 L', .int .u8 N', .int .i64 YA, .int .i64 YB, .slice a' n' c'] 56) = w2 at *
  obtain ⟨x0, x1, x2, x3, x4, xf⟩ := lown5 o1
  obtain ⟨y0, y1, y2, y3, y4, yf⟩ := lown5 o2
  by_cases h0 : L = L'
  · subst h0
    by_cases h1 : N = N'
    · subst h1
      by_cases h2 : XA = YA
      · subst h2
        by_cases h3 : XB = YB
        · subst h3
          obtain rfl : b = t := Bool.eq_iff_iff.2 ⟨fun q => (HB.out.1 q).2.2.2.2, fun q => HB.out.2 ⟨rfl, HOP.out.2 rfl, rfl, rfl, q⟩⟩
          clear HB HOP
          go_wp2_with fail
          refine Calls.mono (HEQ.out w2 hb0) ?_
          rintro e w3 ⟨rfl, b3⟩
          replace hb0 := hb0.trans (b3.mono hb0.size)
          cases b <;> (go_wp2; go_ret; exact ⟨rfl, hb0⟩)
        · obtain rfl : b = false := iff_false HB.out (fun q => h3 q.2.2.2.1)
          have hq : (XB == YB) = false := by rw [beq_eq_false_iff_ne]; exact h3
          clear HB HOP HEQ
          go_wp2
          go_ret
          exact ⟨rfl, hb0⟩
      · obtain rfl : b = false := iff_false HB.out (fun q => h2 q.2.2.1)
        have hq : (XA == YA) = false := by rw [beq_eq_false_iff_ne]; exact h2
        clear HB HOP HEQ
        go_wp2
        go_ret
        exact ⟨rfl, hb0⟩
    · obtain rfl : b = false := iff_false HB.out (fun q => h1 (HOP.out.1 q.2.1))
      have hq : (N == N') = false := by rw [beq_eq_false_iff_ne]; exact h1
      clear HB HOP HEQ
      go_wp2
      go_ret
      exact ⟨rfl, hb0⟩
  · obtain rfl : b = false := iff_false HB.out (fun q => h0 q.1)
    have hq : (L == L') = false := by rw [beq_eq_false_iff_ne]; exact h0
    clear HB HOP HEQ
    go_wp2
    go_ret
    exact ⟨rfl, hb0⟩
set_option maxHeartbeats 4000000 in
set_option maxRecDepth 100000 in
theorem eqfLine_as {w : World} {a a' : Option Addr} {n n' c c' : Nat} {xs ys : List LnP} (hn : n = xs.length) (hn' : n' = ys.length) (h : LnsIn w a xs) (h' : LnsIn w a' ys) (b : Bool) (hb : b = true ↔ xs.map LnP.l = ys.map LnP.l) :
    Calls Tryz.prog 58 #[.slice a n c, .slice a' n' c', .func (.func 59) #[] #[]] w fun e w' => e = .returned (.bool b) ∧ Below w.heap.size w w' := by
  by_cases hne : n = n'
  · subst hne
    have HN : Hid (n = xs.length) := hn
    have HN' : Hid (n = ys.length) := hn'
    have H1 : Hid (RowAt w a 5 xs.length (lnF xs)) := h.row
    have H2 : Hid (RowAt w a' 5 ys.length (lnF ys)) := h'.row
    have HX : Hid (∀ x ∈ xs, LnIn w x) := h.each
    have HY : Hid (∀ x ∈ ys, LnIn w x) := h'.each
    have HB : Hid (b = true ↔ xs.map LnP.l = ys.map LnP.l) := hb
    have hm : n ≤ 140737488355328 := by rw [hn]; exact h.mx
    clear hn hn' h h' hb
    go_enter Tryz.func58, Tryz.ntmps58
    go_wp2_with fail
    go_loopw [17] (fun i wr => ∃ k : Nat, k ≤ n ∧ i = .int .i64 (k : Int) ∧ Below w.heap.size w wr ∧ ∀ j, j < k → (xs.getD j zLn).l = (ys.getD j zLn).l) (fun i _ => n - (intOf i).toNat)
    case atStart => exact ⟨0, Nat.zero_le _, rfl, Below.refl _ _, fun j hj => by omega⟩
    case round =>
      obtain ⟨k, hk, rfl, hbel, hpre⟩ := hrel
      by_cases hlt : k < n
      · have hkx : k < xs.length := by rw [← HN.out]; exact hlt
        have hky : k < ys.length := by rw [← HN'.out]; exact hlt
        obtain ⟨b1, o1, ha1, g1⟩ := (H1.out.below hbel).at hkx
        obtain ⟨b2, o2, ha2, g2⟩ := (H2.out.below hbel).at hky
        have hXi := HX.out _ (getD_in (z := zLn) hkx)
        have hYi := HY.out _ (getD_in (z := zLn) hky)
        unfold lnF at g1 g2
        obtain ⟨b', hb'⟩ := some_bool ((xs.getD k zLn).l = (ys.getD k zLn).l)
        have HP : Hid (b' = true → ∀ j, j < k + 1 → (xs.getD j zLn).l = (ys.getD j zLn).l) := fun q0 j hj => by
          by_cases q : j = k
          · subst q; exact hb'.1 q0
          · exact hpre j (by omega)
        have HF : Hid (b' = false → b = false) := fun q0 => iff_false HB.out (fun q => by
          have := hb'.2 (getD_of_map zLn q k)
          rw [q0] at this; cases this)
        generalize xs.getD k zLn = X at *
        generalize ys.getD k zLn = Y at *
        have HC : Hid (∀ W, Below w.heap.size w W → Calls Tryz.prog 59 #[.agg #[.int .i64 X.lab, .int .u8 (X.x.op : Int), .int .i64 X.x.a, .int .i64 X.x.b, .slice X.ao X.x.arms.length X.cp], .agg #[.int .i64 Y.lab, .int .u8 (Y.x.op : Int), .int .i64 Y.x.a, .int .i64 Y.x.b, .slice Y.ao Y.x.arms.length Y.cp]] W fun e w' => e = .returned (.bool b') ∧ Below W.heap.size W w') := fun W q => lnsameLine_as (hXi.below q) (hYi.below q) b' hb'
        subst ha1 ha2
        have d0 : wr.cell? ⟨b1, o1 + k * 5, none⟩ = some (.int .i64 X.lab) := g1 0 (by omega)
        have d1 : wr.cell? ⟨b1, o1 + k * 5 + 1, none⟩ = some (.int .u8 (X.x.op : Int)) := g1 1 (by omega)
        have d2 : wr.cell? ⟨b1, o1 + k * 5 + 2, none⟩ = some (.int .i64 X.x.a) := g1 2 (by omega)
        have d3 : wr.cell? ⟨b1, o1 + k * 5 + 3, none⟩ = some (.int .i64 X.x.b) := g1 3 (by omega)
        have d4 : wr.cell? ⟨b1, o1 + k * 5 + 4, none⟩ = some (.slice X.ao X.x.arms.length X.cp) := g1 4 (by omega)
        have f0 : wr.cell? ⟨b2, o2 + k * 5, none⟩ = some (.int .i64 Y.lab) := g2 0 (by omega)
        have f1 : wr.cell? ⟨b2, o2 + k * 5 + 1, none⟩ = some (.int .u8 (Y.x.op : Int)) := g2 1 (by omega)
        have f2 : wr.cell? ⟨b2, o2 + k * 5 + 2, none⟩ = some (.int .i64 Y.x.a) := g2 2 (by omega)
        have f3 : wr.cell? ⟨b2, o2 + k * 5 + 3, none⟩ = some (.int .i64 Y.x.b) := g2 3 (by omega)
        have f4 : wr.cell? ⟨b2, o2 + k * 5 + 4, none⟩ = some (.slice Y.ao Y.x.arms.length Y.cp) := g2 4 (by omega)
        clear g1 g2 hXi hYi hb' hpre H1 H2 HX HY
        generalize X.lab = pK at *
        generalize (X.x.op : Int) = pO at *
        generalize X.x.a = pA at *
        generalize X.x.b = pB at *
        generalize X.ao = ps at *
        generalize X.x.arms.length = pn at *
        generalize X.cp = pc at *
        generalize Y.lab = qK at *
        generalize (Y.x.op : Int) = qO at *
        generalize Y.x.a = qA at *
        generalize Y.x.b = qB at *
        generalize Y.ao = qs at *
        generalize Y.x.arms.length = qn at *
        generalize Y.cp = qc at *
        have hlt2 : (k : Int) < (n : Int) := by omega
        have hk0 : (0 : Int) ≤ (k : Int) := by omega
        have oX := (Own.new wr #[.int .i64 pK, .int .u8 pO, .int .i64 pA, .int .i64 pB, .slice ps pn pc] 56).alloc (.cells #[.int .i64 qK, .int .u8 qO, .int .i64 qA, .int .i64 qB, .slice qs qn qc] 56)
        have oY := Own.new (wr.alloc (.cells #[.int .i64 pK, .int .u8 pO, .int .i64 pA, .int .i64 pB, .slice ps pn pc] 56)) #[.int .i64 qK, .int .u8 qO, .int .i64 qA, .int .i64 qB, .slice qs qn qc] 56
        rw [World.size_alloc] at oY
        have hbel2 := (hbel.alloc hbel.size (.cells #[.int .i64 pK, .int .u8 pO, .int .i64 pA, .int .i64 pB, .slice ps pn pc] 56)).alloc (by have := hbel.size; simp; omega) (.cells #[.int .i64 qK, .int .u8 qO, .int .i64 qA, .int .i64 qB, .slice qs qn qc] 56)
        have m0 := (Below.cell (p := ⟨b2, o2 + k * 5, none⟩) (new_below wr (.cells #[.int .i64 pK, .int .u8 pO, .int .i64 pA, .int .i64 pB, .slice ps pn pc] 56)) (World.block_lt_of_cell? wr _ f0)).trans f0
        have m1 := (Below.cell (p := ⟨b2, o2 + k * 5 + 1, none⟩) (new_below wr (.cells #[.int .i64 pK, .int .u8 pO, .int .i64 pA, .int .i64 pB, .slice ps pn pc] 56)) (World.block_lt_of_cell? wr _ f1)).trans f1
        have m2 := (Below.cell (p := ⟨b2, o2 + k * 5 + 2, none⟩) (new_below wr (.cells #[.int .i64 pK, .int .u8 pO, .int .i64 pA, .int .i64 pB, .slice ps pn pc] 56)) (World.block_lt_of_cell? wr _ f2)).trans f2
        have m3 := (Below.cell (p := ⟨b2, o2 + k * 5 + 3, none⟩) (new_below wr (.cells #[.int .i64 pK, .int .u8 pO, .int .i64 pA, .int .i64 pB, .slice ps pn pc] 56)) (World.block_lt_of_cell? wr _ f3)).trans f3
        have m4 := (Below.cell (p := ⟨b2, o2 + k * 5 + 4, none⟩) (new_below wr (.cells #[.int .i64 pK, .int .u8 pO, .int .i64 pA, .int .i64 pB, .slice ps pn pc] 56)) (World.block_lt_of_cell? wr _ f4)).trans f4
        go_upto_region 7 with fail
        generalize (wr.alloc (.cells #[.int .i64 pK, .int .u8 pO, .int .i64 pA, .int .i64 pB, .slice ps pn pc] 56)).alloc (.cells #[.int .i64 qK, .int .u8 qO, .int .i64 qA, .int .i64 qB, .slice qs qn qc] 56) = w3 at *
        obtain ⟨x0, x1, x2, x3, x4, xf⟩ := lown5 oX
        obtain ⟨y0, y1, y2, y3, y4, yf⟩ := lown5 oY
        clear d0 d1 d2 d3 d4 f0 f1 f2 f3 f4 m0 m1 m2 m3 m4
        go_wp2_with fail
        refine Calls.mono (HC.out w3 hbel2) ?_
        rintro e w4 ⟨rfl, b4⟩
        replace hbel2 := hbel2.trans (b4.mono hbel2.size)
        clear b4
        cases b' with
        | true =>
          have HP2 : Hid (∀ j, j < k + 1 → (xs.getD j zLn).l = (ys.getD j zLn).l) := HP.out rfl
          clear HP HF HC
          go_wp2
          go_roundw
          case rel => exact ⟨k + 1, hlt, by go_num, hbel2, HP2.out⟩
          case measure => simp [intOf]; omega
        | false =>
          obtain rfl : b = false := HF.out rfl
          clear HP HF HC
          go_wp2
          go_ret
          exact ⟨rfl, hbel2⟩
      · obtain rfl : k = n := by omega
        obtain rfl : b = true := HB.out.2 (list_eq_map zLn (by rw [← HN.out, ← HN'.out]) (fun j hj => hpre j (by rw [HN.out]; exact hj)))
        go_wp2
        go_ret
        exact ⟨rfl, hbel⟩
  · obtain rfl : b = false := iff_false hb (fun q => hne (by rw [hn, hn', ← List.length_map (f := LnP.l), q, List.length_map]))
    have hq : ((n : Int) == (n' : Int)) = false := by rw [beq_eq_false_iff_ne]; omega
    clear h h' hb hn hn'
    generalize (n : Int) = N at *
    generalize (n' : Int) = N' at *
    go_enter Tryz.func58, Tryz.ntmps58
    go_wp2
    go_ret
    exact ⟨rfl, Below.refl _ _⟩
set_option maxHeartbeats 4000000 in
theorem lnSame_as {w : World} {a a' : Option Addr} {n n' c c' : Nat} {xs ys : List LnP} (hn : n = xs.length) (hn' : n' = ys.length) (h : LnsIn w a xs) (h' : LnsIn w a' ys) (b : Bool) (hb : b = true ↔ xs.map LnP.l = ys.map LnP.l) :
    Calls Tryz.prog 34 #[.slice a n c, .slice a' n' c'] w fun e w' => e = .returned (.bool b) ∧ Below w.heap.size w w' := by
  have hC := eqfLine_as (c := c) (c' := c') hn hn' h h' b hb
  clear hn hn' h h' hb
  go_enter Tryz.func34, Tryz.ntmps34
  go_wp2_with fail
  refine Calls.mono hC ?_
  rintro e w3 ⟨rfl, b3⟩
  go_wp2
  go_ret
  exact ⟨rfl, b3⟩
end Go.Proofs.YtkmmnocooibljaaGreatDoor
