/-
  CONTRACTS of ofCall and ofRecord.
-/
import Derived.Test.YtibcakmodkbliaaTk7
import Derived.Test.YtibcakmodkbliaaMk
namespace Go.Proofs.Ytibcakmodkbliaa
open Go.RowKit
set_option linter.unusedVariables false

/-- What effectOf answers: an effect of the call's own, or that what is named is not there. -/
def OutRet (w : World) (R : Option (List Int × List Int)) (e : Ending) (w' : World) : Prop := match R with
  | none => (∃ ta tn tc pa pn pc, e = .returned (.tuple #[effV (.slice ta tn tc) (.slice pa pn pc), .bool false])) ∧ Below w.heap.size w w'
  | some r => (∃ ta tc pa pc, e = .returned (.tuple #[effV (.slice ta r.1.length tc) (.slice pa r.2.length pc), .bool true]) ∧ IntNew w' w.heap.size (.slice ta r.1.length tc) r.1 ∧ IntNew w' w.heap.size (.slice pa r.2.length pc) r.2) ∧ Below w.heap.size w w'
theorem below_drew1 {B : Nat} {w w1 : World} (h : Below B w w1) : Below B w w1.drew := below_drawn h 1
abbrev roA (r : RoP) : Array Value := #[.string r.r.name, .slice r.pa r.r.params.length r.pc, .slice r.ra r.r.results.length r.rc, .int .i64 r.r.locals, .int .i64 r.r.stack, .slice r.ca r.r.code.length r.cc]
theorem own6 {w : World} {g : Nat} {a0 a1 a2 a3 a4 a5 : Value} {t : TypeId} (h : Own w g #[a0, a1, a2, a3, a4, a5] t) : w.cell? ⟨g, 0, none⟩ = some a0 ∧ w.cell? ⟨g, 1, none⟩ = some a1 ∧ w.cell? ⟨g, 2, none⟩ = some a2 ∧ w.cell? ⟨g, 3, none⟩ = some a3 ∧ w.cell? ⟨g, 4, none⟩ = some a4 ∧ w.cell? ⟨g, 5, none⟩ = some a5 ∧ ∀ j, w.frozen? ⟨g, j, none⟩ = false := ⟨h.cell 0, h.cell 1, h.cell 2, h.cell 3, h.cell 4, h.cell 5, h.froz⟩
theorem roCells {w : World} {a : Option Addr} {fs : List RoP} (h : RowAt w a 6 fs.length (roF fs)) {i : Nat} (hi : i < fs.length) (r : RoP) (hr : fs.getD i zRP = r) : ∃ b off, a = some ⟨b, off, none⟩ ∧ w.cell? ⟨b, off + i * 6, none⟩ = some (.string r.r.name) ∧ w.cell? ⟨b, off + i * 6 + 1, none⟩ = some (.slice r.pa r.r.params.length r.pc) ∧ w.cell? ⟨b, off + i * 6 + 2, none⟩ = some (.slice r.ra r.r.results.length r.rc) ∧ w.cell? ⟨b, off + i * 6 + 3, none⟩ = some (.int .i64 r.r.locals) ∧ w.cell? ⟨b, off + i * 6 + 4, none⟩ = some (.int .i64 r.r.stack) ∧ w.cell? ⟨b, off + i * 6 + 5, none⟩ = some (.slice r.ca r.r.code.length r.cc) := by
  obtain ⟨b, off, e, hc⟩ := h.at hi
  subst hr
  exact ⟨b, off, e, hc 0 (by omega), hc 1 (by omega), hc 2 (by omega), hc 3 (by omega), hc 4 (by omega), hc 5 (by omega)⟩
def callM (fs : List RoP) (x : Int) : Option (List Int × List Int) := if x < (fs.length : Int) then some ((fs.getD x.toNat zRP).r.params, (fs.getD x.toNat zRP).r.results) else none
set_option maxHeartbeats 2000000 in
set_option maxRecDepth 100000 in
theorem ofCall_as {w : World} {a : Option Addr} {n c : Nat} {fs : List RoP} (hr : RowAt w a 6 fs.length (roF fs)) (hn : n = fs.length) (hm : n ≤ 100000) (hro : ∀ r ∈ fs, RoIn w r ∧ r.r.params.length ≤ 100000 ∧ r.r.results.length ≤ 100000) (x : Int) (h0 : 0 ≤ x) (h1 : x ≤ 65535) :
    Calls Try.prog 65 #[.int .i64 x, .slice a n c] w (OutRet w (callM fs x)) := by
  have o0 := Own.new w zEff 103
  have b0 := new_below w (.cells zEff 103)
  obtain ⟨R, HR⟩ : ∃ R, Hid (callM fs x = R) := ⟨_, rfl⟩
  rw [HR.out]
  have HN : Hid (n = fs.length) := hn
  by_cases hx : x < (n : Int)
  · obtain ⟨r, hri⟩ : ∃ r, fs.getD x.toNat zRP = r := ⟨_, rfl⟩
    have hin : x.toNat < fs.length := by omega
    obtain rfl : some (r.r.params, r.r.results) = R := by rw [← HR.out]; unfold callM; rw [if_pos (by rw [← HN.out]; exact hx), hri]
    obtain ⟨hR, hp, hq⟩ := hro r (by rw [← hri]; exact getD_in hin)
    have e0 : (w.alloc (.cells zEff 103)).heap.size = w.heap.size + 1 := World.size_alloc _ _
    obtain ⟨b, off, rfl, c0, c1, c2, c3, c4, c5⟩ := roCells (hr.below b0) hin r hri
    have HTK : Hid (∀ W, Below w.heap.size w W → Calls Try.prog 63 #[.slice r.pa r.r.params.length r.pc] W fun e w' => ∃ v, e = .returned (effV v (.slice none 0 0)) ∧ IntNew w' W.heap.size v r.r.params ∧ Below W.heap.size W w') := fun W hb => take_as (hR.params.below hb) rfl hR.pno hR.ple (by omega)
    have HPT : Hid (∀ W tv, Below w.heap.size w W → IntNew W w.heap.size tv r.r.params → Calls Try.prog 64 #[effV tv (.slice none 0 0), .slice r.ra r.r.results.length r.rc] W fun e w' => ∃ v, e = .returned (effV tv v) ∧ IntNew w' w.heap.size tv r.r.params ∧ IntNew w' w.heap.size v r.r.results ∧ Below W.heap.size W w') := fun W tv hb hi => put_as hb.size hi (hR.results.below hb) rfl hR.rno hR.rle (by omega)
    clear hr hn hm hro hri hR hp hq hin HR HN
    go_enter Try.func65, Try.ntmps65
    go_upto_region 1 with fail
    generalize w.alloc (.cells zEff 103) = w1 at *
    go_upto_region 4 with fail
    have oB := Own.new w1 (roA r) 41
    rw [e0] at oB
    have bB := new_below w1 (.cells (roA r) 41)
    have o2 := o0.below bB
    have b2 := b0.trans (bB.mono b0.size)
    clear c0 c1 c2 c3 c4 c5 o0 b0 bB e0
    generalize w1.alloc (.cells (roA r) 41) = w2 at *
    obtain ⟨y0, y1, y2, y3, y4, y5, yf⟩ := own6 oB
    have ne1 : ¬ w.heap.size + 1 = w.heap.size := by omega
    have ne2 : ¬ w.heap.size = w.heap.size + 1 := by omega
    go_region_held3 (fun w' => w'.cell? ⟨w.heap.size + 1, 1, none⟩ = some (.slice r.pa r.r.params.length r.pc) ∧ w'.cell? ⟨w.heap.size + 1, 2, none⟩ = some (.slice r.ra r.r.results.length r.rc)) (go_keep)
      (first
        | (have hz := B3; clear hz; go_at_call 64; refine (HPT.out W3 (.slice a2 r.r.params.length c2) B3 i2).mono ?_; rintro en W4 ⟨pv, rfl, i4, j4, k4⟩; obtain ⟨a4, d4, rfl⟩ := j4.shape; have B4 : Below w.heap.size w W4 := B3.trans (k4.mono B3.size); have ob4 := ob3.below k4; have or4 := or3.below k4; obtain ⟨u0, u1, u2, u3, u4, u5, uf⟩ := own6 ob4; obtain ⟨r0, r1, rf⟩ := own2 or4)
        | (go_at_call 63; refine (HTK.out w2.drew (below_drew1 b2)).mono ?_; rintro en W3 ⟨tv, rfl, i3, k3⟩; obtain ⟨a2, c2, rfl⟩ := i3.shape; have kk3 : Below w2.heap.size w2 W3 := (below_drew1 (Below.refl _ w2)).trans k3; have B3 : Below w.heap.size w W3 := b2.trans (kk3.mono b2.size); have i2 := i3.mono b2.size; have ob3 := oB.below kk3; have or3 := o2.below kk3; obtain ⟨z0, z1, z2, z3, z4, z5, zf⟩ := own6 ob3))
    have o5 := (or4.set 0 (.slice a2 r.r.params.length c2)).set 1 (.slice a4 r.r.results.length d4)
    have o6 : Own ((W4.setCell ⟨w.heap.size, 0, none⟩ (.slice a2 r.r.params.length c2)).setCell ⟨w.heap.size, 1, none⟩ (.slice a4 r.r.results.length d4)) w.heap.size #[.slice a2 r.r.params.length c2, .slice a4 r.r.results.length d4] 103 := by simpa using o5
    go_wp2
    refine bodyPost_cell2 (g := w.heap.size) (t := 103) rfl rfl rfl o6 Try.underlying103 rfl (by kernel_rfl) ?_
    exact ⟨⟨_, _, _, _, rfl, i4.set2 or4 (by decide) _ _, j4.set2 or4 (by decide) _ _⟩, below_set2 B4 (Nat.le_refl _) _ _⟩
  · obtain rfl : none = R := by rw [← HR.out]; unfold callM; rw [if_neg (by rw [← HN.out]; exact hx)]
    clear hr hn hm hro HR HN h0 h1
    go_enter Try.func65, Try.ntmps65
    go_upto_region 1 with fail
    generalize w.alloc (.cells zEff 103) = w1 at *
    go_wp2_with (refine wpList_put rfl 103 (.tmp 4) (.tmp 11) rfl rfl w.heap.size 0 rfl rfl o0 infoE rfl (by simp) rfl ?_; intro w5 o5 g5)
    refine bodyPost_cell2 (g := w.heap.size) (t := 103) rfl rfl rfl o5 Try.underlying103 rfl (by kernel_rfl) ?_
    exact ⟨⟨_, _, _, _, _, _, rfl⟩, b0.grown g5 b0.size (fun k e => by cases e; exact Nat.le_refl _)⟩
end Go.Proofs.Ytibcakmodkbliaa
