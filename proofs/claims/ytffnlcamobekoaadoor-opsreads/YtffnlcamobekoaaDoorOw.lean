/-
  OpsWrites, walked.
-/
import Derived.Test.YtffnlcamobekoaaDoorLk
import Derived.Test.YtffnlcamobekoaaDoorFo
namespace Go.Proofs.YtffnlcamobekoaaDoor
open Go.RowKit
set_option linter.unusedVariables false

/-- What stands while the law runs. -/
structure WSt (W w : World) (X Y : Array Value) (gY g n c : Nat) (ar : List (Int × Int)) : Prop where
  ox : Own w W.heap.size X 24
  oy : Own w gY Y 24
  lent : LentR w g n c ar
  bel : Below W.heap.size W w
theorem WSt.below {W w w' : World} {X Y : Array Value} {gY g n c : Nat} {ar : List (Int × Int)} (h : WSt W w X Y gY g n c ar) (hb : Below w.heap.size w w') : WSt W w' X Y gY g n c ar :=
  ⟨h.ox.below hb, h.oy.below hb, h.lent.below hb, h.bel.trans (hb.mono h.bel.size)⟩
theorem WSt.grown {W w w' : World} {X Y : Array Value} {gY g n c : Nat} {ar : List (Int × Int)} (h : WSt W w X Y gY g n c ar) {v : Value} {m : Nat} {zs : List Value} (hr : Rw w 5 1 v m zs) (hg : w.grownBy w' v.ownBlock) (hn : ∀ b, v.ownBlock = some b → W.heap.size ≤ b) : WSt W w' X Y gY g n c ar :=
  ⟨h.ox.grown hg (fun e => hr.ne h.ox (by decide) e.symm), h.oy.grown hg (fun e => hr.ne h.oy (by decide) e.symm), Rw.grown h.lent hg (fun k e q => hr.ne2 h.lent (by decide) k q.symm e), h.bel.grown hg h.bel.size hn⟩
theorem Rw.belowR {w w' : World} {e : TypeId} {size : Nat} {v : Value} {n : Nat} {xs : List Value} (h : Rw w e size v n xs) (hb : Below w.heap.size w w') : Rw w' e size v n xs := h.on fun k q => hb.block k (h.lt q)
def SpR (w : World) (v : Value) (L : Nat) (wr : World) : Prop := w.grownBy wr v.ownBlock ∧ ∃ zs, Rw wr 5 1 v L zs
theorem grown_tr {w w1 w2 : World} {r : Option Nat} (h1 : w.grownBy w1 r) (h2 : w1.grownBy w2 r) : w.grownBy w2 r :=
  ⟨h2.os.trans h1.os, h2.tape.trans h1.tape, h2.output.trans h1.output, Nat.le_trans h1.size h2.size, fun k hk hr => (h2.block k (Nat.lt_of_lt_of_le hk h1.size) hr).trans (h1.block k hk hr)⟩
theorem cells4w {W w : World} {Y : Array Value} {gY g n c : Nat} {ar : List (Int × Int)} {a0 a1 a2 a3 : Value} (h : WSt W w #[a0, a1, a2, a3] Y gY g n c ar) : (∀ t : After w, t.1.cell? ⟨W.heap.size, 0, none⟩ = some a0) ∧ (∀ t : After w, t.1.cell? ⟨W.heap.size, 1, none⟩ = some a1) ∧ (∀ t : After w, t.1.cell? ⟨W.heap.size, 2, none⟩ = some a2) ∧ (∀ t : After w, t.1.cell? ⟨W.heap.size, 3, none⟩ = some a3) := cells4 h.ox
def WEnc (w : World) (L : Nat) (E : Int) (ZS : List Value) (e : Ending) (w' : World) : Prop := ∃ a c, e = .returned (.tuple #[.slice a L c, .int .i64 E]) ∧ Rw w' 5 1 (.slice a L c) L ZS ∧ (∀ b, (Value.slice a L c).ownBlock = some b → w.heap.size ≤ b) ∧ Below w.heap.size w w'
theorem enc_wenc {w : World} {x : In} {e : Ending} {w' : World} (h : EncRet w x e w') : WEnc w x.enc.length (if x.ok = true then 0 else 120) (nums x.enc) e w' := by
  obtain ⟨v, rfl, h1, h2, h3⟩ := h
  obtain ⟨a, c, rfl, -⟩ := h1.shape
  exact ⟨a, c, rfl, h1, h2, h3⟩
set_option maxHeartbeats 8000000 in
set_option maxRecDepth 100000 in
theorem writes_walk (W : World) (x : In) (ao : Option Addr) (cap : Nat) (hx : InAt W x ao cap) (hN : NamesAt W) :
    Calls Tryd.prog 3 #[insV x (.slice ao x.arms.length cap)] W fun e w' => e = .returned (.bool true) ∧ Below W.heap.size W w' := by
  obtain ⟨n, hn⟩ : ∃ n, x.arms.length = n := ⟨_, rfl⟩
  have oX := Own.new W #[.int .u8 (x.op : Int), .int .i64 x.a, .int .i64 x.b, .slice ao n cap] 24
  have hb1 := new_below W (.cells #[.int .u8 (x.op : Int), .int .i64 x.a, .int .i64 x.b, .slice ao n cap] 24)
  have HWORKS : Hid (∀ w, Below W.heap.size W w → Calls Tryd.prog 9 #[] w fun e w' => e = .returned (.bool true) ∧ Below w.heap.size w w') := fun w h => works_any (hN.below h)
  rw [hn]
  by_cases hbig : 70000 < n
  · have hbi : (70000 : Int) < (n : Int) := by omega
    unfold insV
    generalize (x.op : Int) = N at *
    generalize x.a = XA at *
    generalize x.b = XB at *
    clear hx hn hN
    go_enter Tryd.func3, Tryd.ntmps3
    go_upto_region 1 with fail
    generalize W.alloc (.cells #[.int .u8 N, .int .i64 XA, .int .i64 XB, .slice ao n cap] 24) = w1 at *
    obtain ⟨x0, x1, x2, x3, xf⟩ := own4 oX
    go_wp2_with fail
    refine Calls.mono (HWORKS.out w1 hb1) ?_
    rintro e w2 ⟨rfl, b2⟩
    go_wp2
    go_ret
    exact ⟨rfl, hb1.trans (b2.mono hb1.size)⟩
  · have hsm : n ≤ 70000 := by omega
    have hsmi : (n : Int) ≤ 70000 := by omega
    have HLENT : Hid (∀ w, Below W.heap.size W w → Calls Tryd.prog 10 #[.agg #[.int .u8 (x.op : Int), .int .i64 x.a, .int .i64 x.b, .slice ao n cap]] w fun e w' => ∃ g c, e = .returned (.agg #[.int .u8 (x.op : Int), .int .i64 x.a, .int .i64 x.b, .slice (some ⟨g, 0, none⟩) n c]) ∧ LentR w' g n c x.arms ∧ w.heap.size ≤ g ∧ Below w.heap.size w w') := fun w h =>
      klent_as (w := w) (x := x) (ao := ao) (cp := cap) ⟨hx.lies.below h, hx.none, hx.le, hx.max⟩ n hn.symm (by omega)
    have HY : Hid (∀ w g c, LentR w g n c x.arms → InLies w x (some ⟨g, 0, none⟩)) := fun w g c h => ⟨hx.lies.op, hx.lies.a, hx.lies.b, h.arms hn.symm hx.lies.arms.nums⟩
    have HRENC : Hid (∀ w, Below W.heap.size W w → Calls Tryd.prog 11 #[.agg #[.int .u8 (x.op : Int), .int .i64 x.a, .int .i64 x.b, .slice ao n cap]] w (WEnc w x.enc.length (if x.ok = true then 0 else 120) (nums x.enc))) := fun w h =>
      (renc_as (cp := cap) (hx.lies.below h) n hn.symm (by omega)).mono fun _ _ q => enc_wenc q
    have HENC : Hid (∀ w g c, LentR w g n c x.arms → Calls Tryd.prog 12 #[.agg #[.int .u8 (x.op : Int), .int .i64 x.a, .int .i64 x.b, .slice (some ⟨g, 0, none⟩) n c]] w (WEnc w x.enc.length (if x.ok = true then 0 else 120) (nums x.enc))) := fun w g c h =>
      (enc_as (cp := c) (HY.out w g c h) n hn.symm (by omega)).mono fun _ _ q => enc_wenc q
    have HSIZE : Hid (∀ w g c, LentR w g n c x.arms → Calls Tryd.prog 13 #[.agg #[.int .u8 (x.op : Int), .int .i64 x.a, .int .i64 x.b, .slice (some ⟨g, 0, none⟩) n c]] w fun e w' => e = .returned (.int .i64 (x.size : Int)) ∧ Below w.heap.size w w') := fun w g c h => size_as (cp := c) (HY.out w g c h) n hn.symm (by omega)
    have HRSIZE : Hid (∀ w, Below W.heap.size W w → Calls Tryd.prog 14 #[.agg #[.int .u8 (x.op : Int), .int .i64 x.a, .int .i64 x.b, .slice ao n cap]] w fun e w' => e = .returned (.int .i64 (x.size : Int)) ∧ Below w.heap.size w w') := fun w h => rsize_as (cp := cap) (hx.lies.below h) n hn.symm (by omega)
    have HNAME : Hid (∀ w, Below W.heap.size W w → Calls Tryd.prog 15 #[.int .u8 (x.op : Int)] w fun e w' => e = .returned (.string (nameB x.op)) ∧ Below w.heap.size w w') := fun w h => (name_as x.op hx.lies.op (hN.below h)).mono fun _ _ q => ⟨q.1, q.2 ▸ Below.refl _ _⟩
    have HRNAME : Hid (∀ w, Calls Tryd.prog 16 #[.int .u8 (x.op : Int)] w fun e w' => e = .returned (.string (nameB x.op)) ∧ Below w.heap.size w w') := fun w => rname_as x.op hx.lies.op w
    have HKEPT : Hid (∀ w g c, Below W.heap.size W w → LentR w g n c x.arms → Calls Tryd.prog 17 #[.agg #[.int .u8 (x.op : Int), .int .i64 x.a, .int .i64 x.b, .slice (some ⟨g, 0, none⟩) n c], .agg #[.int .u8 (x.op : Int), .int .i64 x.a, .int .i64 x.b, .slice ao n cap]] w fun e w' => e = .returned (.bool true) ∧ Below w.heap.size w w') := fun w g c h q => kkept_as (cp := cap) (hx.lies.below h) n hn.symm (by omega) g c q
    have HCONV : Hid (∀ (a : Option Addr) (c : Nat) (w : World), Rw w 5 1 (.slice a x.enc.length c) x.enc.length (nums x.enc) → (convert 27 9 (.slice a x.enc.length c)).run Tryd.prog w = .ok (.string (strN x.enc)) w) := fun a c w h => by
      obtain ⟨a', c', e, hl⟩ := row_lies h (enc_byte x hx.lies.op) (by have := enc_small x; omega)
      cases e
      exact conv_any hl rfl
    have HLS : Hid (x.enc.length ≤ 9223372036854775807) := by have := enc_small x; unfold Hid; omega
    clear HY
    generalize nums x.enc = ZS at *
    generalize strN x.enc = SE at *
    generalize x.enc.length = L at *
    generalize (if x.ok = true then (0 : Int) else 120) = E at *
    generalize (x.size : Int) = S at *
    generalize nameB x.op = SN at *
    unfold insV
    generalize (x.op : Int) = N at *
    generalize x.a = XA at *
    generalize x.b = XB at *
    generalize x.arms = ar at *
    clear hx hn hN
    go_enter Tryd.func3, Tryd.ntmps3
    go_upto_region 1 with fail
    generalize W.alloc (.cells #[.int .u8 N, .int .i64 XA, .int .i64 XB, .slice ao n cap] 24) = w1 at *
    obtain ⟨x0, x1, x2, x3, xf⟩ := own4 oX
    go_wp2_with fail
    refine Calls.mono (HLENT.out w1 hb1) ?_
    rintro e w2 ⟨g, c, rfl, hlent, -, b2⟩
    have S3 : WSt W (w2.alloc (.cells #[.int .u8 N, .int .i64 XA, .int .i64 XB, .slice (some ⟨g, 0, none⟩) n c] 24)) #[.int .u8 N, .int .i64 XA, .int .i64 XB, .slice ao n cap] #[.int .u8 N, .int .i64 XA, .int .i64 XB, .slice (some ⟨g, 0, none⟩) n c] w2.heap.size g n c ar :=
      ⟨(oX.below b2).alloc _, Own.new w2 _ _, Rw.alloc hlent _, (hb1.trans (b2.mono hb1.size)).alloc (Nat.le_trans hb1.size b2.size) _⟩
    clear x0 x1 x2 x3 xf hlent b2 oX hb1
    go_upto_region 4 with fail
    generalize w2.alloc (.cells #[.int .u8 N, .int .i64 XA, .int .i64 XB, .slice (some ⟨g, 0, none⟩) n c] 24) = w3 at *
    generalize w2.heap.size = gY at *
    obtain ⟨x0, x1, x2, x3, xf⟩ := own4 S3.ox
    go_wp2_with fail
    refine Calls.mono (HRENC.out w3 S3.bel) ?_
    rintro e w4 ⟨a1, c1, rfl, r1, n1, b4⟩
    have S4 := S3.below b4
    have l1 : ∀ b, (Value.slice a1 L c1).ownBlock = some b → b < w4.heap.size := fun b q => r1.lt q
    clear x0 x1 x2 x3 xf b4 n1
    obtain ⟨y0, y1, y2, y3, yf⟩ := own4 S4.oy
    go_wp2_with fail
    refine Calls.mono (HENC.out w4 g c S4.lent) ?_
    rintro e w5 ⟨a2, c2, rfl, r2, n2, b5⟩
    have S5 := S4.below b5
    replace r1 := r1.belowR b5
    have n2W : ∀ b, (Value.slice a2 L c2).ownBlock = some b → W.heap.size ≤ b := fun b q => Nat.le_trans S4.bel.size (n2 b q)
    have apart : ∀ k, (Value.slice a1 L c1).ownBlock = some k → some k ≠ (Value.slice a2 L c2).ownBlock := fun k e q => by have := l1 k e; have := n2 k q.symm; omega
    clear y0 y1 y2 y3 yf b5 n2 l1 S3 S4
    have C1 : ∀ t : After w5, (convert 27 9 (.slice a1 L c1)).run Tryd.prog t.1 = .ok (.string SE) t.1 := fun t => HCONV.out a1 c1 t.1 (r1.belowR t.2)
    have C2 : ∀ t : After w5, (convert 27 9 (.slice a2 L c2)).run Tryd.prog t.1 = .ok (.string SE) t.1 := fun t => HCONV.out a2 c2 t.1 (r2.belowR t.2)
    obtain ⟨x0, x1, x2, x3⟩ := cells4 S5.ox
    obtain ⟨y0, y1, y2, y3⟩ := cells4 S5.oy
    have Q1 : Hid (∀ t : After w5, Calls Tryd.prog 13 #[.agg #[.int .u8 N, .int .i64 XA, .int .i64 XB, .slice (some ⟨g, 0, none⟩) n c]] t.1 fun e w'' => e = .returned (.int .i64 S) ∧ ∃ t' : After w5, w'' = t'.1) := fun t => quiet_new t (HSIZE.out t.1 g c (S5.below t.2).lent)
    have Q2 : Hid (∀ t : After w5, Calls Tryd.prog 14 #[.agg #[.int .u8 N, .int .i64 XA, .int .i64 XB, .slice ao n cap]] t.1 fun e w'' => e = .returned (.int .i64 S) ∧ ∃ t' : After w5, w'' = t'.1) := fun t => quiet_new t (HRSIZE.out t.1 (S5.below t.2).bel)
    have Q3 : Hid (∀ t : After w5, Calls Tryd.prog 15 #[.int .u8 N] t.1 fun e w'' => e = .returned (.string SN) ∧ ∃ t' : After w5, w'' = t'.1) := fun t => quiet_new t (HNAME.out t.1 (S5.below t.2).bel)
    have Q4 : Hid (∀ t : After w5, Calls Tryd.prog 16 #[.int .u8 N] t.1 fun e w'' => e = .returned (.string SN) ∧ ∃ t' : After w5, w'' = t'.1) := fun t => quiet_new t (HRNAME.out t.1)
    go_wp2_with fail
    refine wp_region_after (by kernel_rfl) (by kernel_rfl) ?_
    repeat (go_big_quiet_step (with_reducible exact rfl))
    go_big_quiet_step (exact Q1.out _)
    repeat (go_big_quiet_step (with_reducible exact rfl))
    go_big_quiet_step (exact Q2.out _)
    repeat (go_big_quiet_step (with_reducible exact rfl))
    go_big_quiet_step (exact Q3.out _)
    repeat (go_big_quiet_step (with_reducible exact rfl))
    go_big_quiet_step (exact Q4.out _)
    repeat (go_big_quiet_step (with_reducible exact rfl))
    refine wpQuiet_nil ?_
    rintro w6 ⟨t6, e6⟩
    have b6 : Below w5.heap.size w5 w6 := by rw [e6]; exact t6.2
    clear e6 t6
    have S6 := S5.below b6
    have q1 := r1.belowR b6
    have q2 := r2.belowR b6
    clear Q1 Q2 Q3 Q4 C1 C2 x0 x1 x2 x3 y0 y1 y2 y3 S5 r1 r2 b6
    have HS6 : Hid (WSt W w6 #[.int .u8 N, .int .i64 XA, .int .i64 XB, .slice ao n cap] #[.int .u8 N, .int .i64 XA, .int .i64 XB, .slice (some ⟨g, 0, none⟩) n c] gY g n c ar) := S6
    have HQ1 : Hid (Rw w6 5 1 (.slice a1 L c1) L ZS) := q1
    have HQ2 : Hid (Rw w6 5 1 (.slice a2 L c2) L ZS) := q2
    have HNW : Hid (∀ b, (Value.slice a2 L c2).ownBlock = some b → W.heap.size ≤ b) := n2W
    have HAP : Hid (∀ k, (Value.slice a1 L c1).ownBlock = some k → some k ≠ (Value.slice a2 L c2).ownBlock) := apart
    have REL : Hid (SpR w6 (.slice a2 L c2) L w6) := ⟨World.grownBy.refl _ _, _, q2⟩
    clear S6 q1 q2 n2W apart
    go_wp2_with fail
    go_loopw [8] (fun i wr => ∃ k : Nat, k ≤ L ∧ i = .int .i64 (k : Int) ∧ SpR w6 (.slice a2 L c2) L wr) (fun i _ => L - (intOf i).toNat)
    case atStart => exact ⟨0, Nat.zero_le _, rfl, REL.out⟩
    case round =>
      clear REL
      obtain ⟨k, hk, rfl, hg, zs, hR⟩ := hrel
      by_cases hlt : k < L
      · obtain ⟨g2, cap2, cur, e, -⟩ := hR.block (by omega)
        cases e
        have hR2 : wr.ownsRow 0 5 1 (.slice (some ⟨g2, 0, none⟩) L c2) L zs := hR
        have hc : ∃ u, wr.cell? ⟨g2, k, none⟩ = some u := by
          rw [hR2.cellAt k (by omega)]
          have : k < zs.length := by rw [hR2.1]; omega
          exact ⟨_, List.getElem?_eq_getElem this⟩
        obtain ⟨u, hc⟩ := hc
        have hf := hR2.frozenAt k
        have st := hR2.stored k (.int .u8 99)
        have RES : Hid (SpR w6 (.slice (some ⟨g2, 0, none⟩) L c2) L (wr.setCell ⟨g2, k, none⟩ (.int .u8 99))) := ⟨grown_tr hg st.2, _, st.1⟩
        have hlt2 : (k : Int) < (L : Int) := by omega
        have hk0 : (0 : Int) ≤ (k : Int) := by omega
        have hLs : L ≤ 9223372036854775807 := HLS.out
        clear st hR hR2 hg HQ2 HNW HAP
        go_wp2
        go_roundw
        case rel => exact ⟨k + 1, hlt, by go_num, RES.out⟩
        case measure => simp [intOf]; omega
      · obtain rfl : k = L := by omega
        have S7 := HS6.out.grown HQ2.out hg HNW.out
        have r1 := HQ1.out.grown hg HAP.out
        clear hg hR HQ1 HQ2 HS6 HNW HAP
        obtain ⟨y0, y1, y2, y3, yf⟩ := own4 S7.oy
        go_wp2_with fail
        refine Calls.mono (HENC.out wr g c S7.lent) ?_
        rintro e w8 ⟨a3, c3, rfl, r3, -, b8⟩
        have S8 := S7.below b8
        replace r1 := r1.belowR b8
        clear y0 y1 y2 y3 yf b8 S7
        have C1 : (convert 27 9 (.slice a1 k c1)).run Tryd.prog w8 = .ok (.string SE) w8 := HCONV.out a1 c1 w8 r1
        have C3 : (convert 27 9 (.slice a3 k c3)).run Tryd.prog w8 = .ok (.string SE) w8 := HCONV.out a3 c3 w8 r3
        obtain ⟨x0, x1, x2, x3, xf⟩ := own4 S8.ox
        obtain ⟨y0, y1, y2, y3, yf⟩ := own4 S8.oy
        go_wp2_with fail
        refine Calls.mono (HKEPT.out w8 g c S8.bel S8.lent) ?_
        rintro e w9 ⟨rfl, b9⟩
        have S9 := S8.below b9
        clear C1 C3 x0 x1 x2 x3 xf y0 y1 y2 y3 yf S8 r1 r3
        go_wp2_with fail
        refine Calls.mono (HWORKS.out w9 S9.bel) ?_
        rintro e w10 ⟨rfl, b10⟩
        have S10 := (S9.below b10).bel
        go_wp2
        go_ret
        exact ⟨rfl, S10⟩
end Go.Proofs.YtffnlcamobekoaaDoor
