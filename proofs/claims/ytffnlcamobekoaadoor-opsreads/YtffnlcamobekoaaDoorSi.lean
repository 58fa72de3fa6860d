/-
  CONTRACT of the kit's SameInstrs where both are the same.
-/
import Derived.Test.YtffnlcamobekoaaDoorSm
namespace Go.Proofs.YtffnlcamobekoaaDoor
open Go.RowKit
set_option linter.unusedVariables false

abbrev Pi := In × Option Addr × Nat
def zP : Pi := (zI, none, 0)
/-- Instructions that lie where a slice begins. -/
structure InsLies (w : World) (a : Option Addr) (ps : List Pi) : Prop where
  each : ∀ y ∈ ps, InLies w y.1 y.2.1
  lies : ps = [] ∨ ∃ b off, a = some ⟨b, off, none⟩ ∧ b < w.heap.size ∧ ∀ i, i < ps.length → w.cell? ⟨b, off + i * 4, none⟩ = some (.int .u8 ((ps.getD i zP).1.op : Int)) ∧ w.cell? ⟨b, off + i * 4 + 1, none⟩ = some (.int .i64 (ps.getD i zP).1.a) ∧ w.cell? ⟨b, off + i * 4 + 2, none⟩ = some (.int .i64 (ps.getD i zP).1.b) ∧ w.cell? ⟨b, off + i * 4 + 3, none⟩ = some (.slice (ps.getD i zP).2.1 (ps.getD i zP).1.arms.length (ps.getD i zP).2.2)
theorem InsLies.below {w w' : World} {a : Option Addr} {ps : List Pi} (h : InsLies w a ps) (hb : Below w.heap.size w w') : InsLies w' a ps := by
  refine ⟨fun y hy => (h.each y hy).below hb, ?_⟩
  rcases h.lies with h0 | ⟨b, off, rfl, hbl, hc⟩
  · exact .inl h0
  · refine .inr ⟨b, off, rfl, Nat.lt_of_lt_of_le hbl hb.size, fun i hi => ?_⟩
    obtain ⟨h1, h2, h3, h4⟩ := hc i hi
    exact ⟨(hb.cell (p := ⟨b, _, none⟩) hbl).trans h1, (hb.cell (p := ⟨b, _, none⟩) hbl).trans h2, (hb.cell (p := ⟨b, _, none⟩) hbl).trans h3, (hb.cell (p := ⟨b, _, none⟩) hbl).trans h4⟩
theorem getD_mem {ps : List Pi} {i : Nat} (h : i < ps.length) : ps.getD i zP ∈ ps := by simp [List.getD, h]
/-- A row of a call's own lies somewhere. -/
theorem insRow_lies {w : World} {B : Nat} {v : Value} {ps : List (In × Value)} (h : InsRow w B v ps) (hn : ∀ y ∈ ps, y.1.ok = true) : ∃ (ao : Option Addr) (cp : Nat) (qs : List Pi), v = .slice ao ps.length cp ∧ qs.map Prod.fst = ps.map Prod.fst ∧ InsLies w ao qs := by
  obtain ⟨ao, cp, rfl, -⟩ := h.row.shape
  have each : ∀ y ∈ ps, ∃ a c, y.2 = .slice a y.1.arms.length c ∧ ArmLies w a y.1.arms := fun y hy => rw_armLies (h.arms y hy).1 (ok_in (hn y hy)).2.2.2.1
  obtain ⟨qs, hq1, hq2⟩ : ∃ qs : List Pi, qs.map (fun y => (y.1, Value.slice y.2.1 y.1.arms.length y.2.2)) = ps ∧ ∀ y ∈ qs, ArmLies w y.2.1 y.1.arms := by
    clear h
    induction ps with
    | nil => exact ⟨[], rfl, by simp⟩
    | cons y r ih =>
      obtain ⟨qs, h1, h2⟩ := ih (fun z hz => hn z (by simp [hz])) (fun z hz => each z (by simp [hz]))
      obtain ⟨a, c, e, ha⟩ := each y (by simp)
      refine ⟨(y.1, a, c) :: qs, ?_, ?_⟩
      · rw [List.map_cons, h1, ← e]
      · intro z hz
        rcases List.mem_cons.1 hz with rfl | hz
        · exact ha
        · exact h2 z hz
  have hfst : qs.map Prod.fst = ps.map Prod.fst := by rw [← hq1, List.map_map]; rfl
  have hlen : ps.length = qs.length := by rw [← hq1, List.length_map]
  refine ⟨ao, cp, qs, rfl, hfst, ?_, ?_⟩
  · intro y hy
    have hm : y.1 ∈ ps.map Prod.fst := by rw [← hfst]; exact List.mem_map.2 ⟨y, hy, rfl⟩
    obtain ⟨z, hz, e⟩ := List.mem_map.1 hm
    have hi := ok_in (hn z hz)
    rw [e] at hi
    exact ⟨hi.1, hi.2.1, hi.2.2.1, hq2 y hy⟩
  · by_cases h0 : qs = []
    · exact .inl h0
    · have hpos : 0 < ps.length := by rw [hlen]; exact List.length_pos_iff.2 h0
      obtain ⟨g, cap, cur, e, ho, -⟩ := h.row.block hpos
      cases e
      refine .inr ⟨g, 0, rfl, ho.lt, fun i hi => ?_⟩
      have hi2 : i < ps.length := by omega
      obtain ⟨h1, h2, h3, h4⟩ := insC_get ps i hi2
      have hg : ps.getD i (zI, undef) = ((qs.getD i zP).1, Value.slice (qs.getD i zP).2.1 (qs.getD i zP).1.arms.length (qs.getD i zP).2.2) := by
        simp only [← hq1, List.getD, List.getElem?_map, List.getElem?_eq_getElem hi, Option.map_some, Option.getD_some]
      rw [hg] at h1 h2 h3 h4
      rw [Nat.zero_add]
      exact ⟨h.row.cells _ _ h1, h.row.cells _ _ h2, h.row.cells _ _ h3, h.row.cells _ _ h4⟩
set_option maxHeartbeats 4000000 in
set_option maxRecDepth 100000 in
theorem sameInss_eq {w : World} {a a' : Option Addr} {n c c' : Nat} {ps qs : List Pi} (hn : n = ps.length) (hpq : qs.map Prod.fst = ps.map Prod.fst) (h : InsLies w a ps) (h' : InsLies w a' qs) (hm : n ≤ 1000000000) (har : ∀ y ∈ ps, y.1.arms.length ≤ 9223372036854775807) :
    Calls Tryd.prog 24 #[.slice a n c, .slice a' n c'] w fun e w' => e = .returned (.bool true) ∧ Below w.heap.size w w' := by
  have HN : Hid (n = ps.length) := hn
  have HN2 : Hid (n = qs.length) := by have := congrArg List.length hpq; simp only [List.length_map] at this; unfold Hid; omega
  have H1 : Hid (InsLies w a ps) := h
  have H2 : Hid (InsLies w a' qs) := h'
  have HPQ : Hid (qs.map Prod.fst = ps.map Prod.fst) := hpq
  have HAR : Hid (∀ y ∈ ps, y.1.arms.length ≤ 9223372036854775807) := har
  clear hn h h' hpq har
  go_enter Tryd.func24, Tryd.ntmps24
  go_wp2_with fail
  go_loopw [5] (fun i wr => ∃ k : Nat, k ≤ n ∧ i = .int .i64 (k : Int) ∧ Below w.heap.size w wr) (fun i _ => n - (intOf i).toNat)
  case atStart => exact ⟨0, Nat.zero_le _, rfl, Below.refl _ _⟩
  case round =>
    obtain ⟨k, hk, rfl, hb⟩ := hrel
    by_cases hlt : k < n
    · have hkx : k < ps.length := by rw [← HN.out]; exact hlt
      have hky : k < qs.length := by rw [← HN2.out]; exact hlt
      have L1 := H1.out.below hb
      have L2 := H2.out.below hb
      rcases L1.lies with h0 | ⟨b, off, rfl, hbl, hc⟩
      · rw [h0] at hkx; cases hkx
      rcases L2.lies with h0 | ⟨b', off', rfl, hbl', hc'⟩
      · rw [h0] at hky; cases hky
      have e1 := hc k hkx
      have e2 := hc' k hky
      have m1 := L1.each _ (getD_mem hkx)
      have m2 := L2.each _ (getD_mem hky)
      have hlen := HAR.out _ (getD_mem hkx)
      have heq : (qs.getD k zP).1 = (ps.getD k zP).1 := by
        have := congrArg (fun l => l[k]?) HPQ.out
        simp only [List.getElem?_map, List.getElem?_eq_getElem hkx, List.getElem?_eq_getElem hky, Option.map_some, Option.some.injEq] at this
        simp only [List.getD, List.getElem?_eq_getElem hkx, List.getElem?_eq_getElem hky, Option.getD_some]
        exact this
      generalize ps.getD k zP = P1 at *
      generalize qs.getD k zP = P2 at *
      obtain ⟨X, ao, cp⟩ := P1
      obtain ⟨Y, ao', cp'⟩ := P2
      simp only at e1 e2 m1 m2 heq hlen
      subst heq
      obtain ⟨f0, f1, f2, f3⟩ := e1
      obtain ⟨g0, g1, g2, g3⟩ := e2
      have T0 : ∀ t : After wr, t.1.cell? ⟨b, off + k * 4, none⟩ = some (.int .u8 (Y.op : Int)) := fun t => (t.2.cell (p := ⟨b, _, none⟩) hbl).trans f0
      have T1 : ∀ t : After wr, t.1.cell? ⟨b, off + k * 4 + 1, none⟩ = some (.int .i64 Y.a) := fun t => (t.2.cell (p := ⟨b, _, none⟩) hbl).trans f1
      have T2 : ∀ t : After wr, t.1.cell? ⟨b, off + k * 4 + 2, none⟩ = some (.int .i64 Y.b) := fun t => (t.2.cell (p := ⟨b, _, none⟩) hbl).trans f2
      have T3 : ∀ t : After wr, t.1.cell? ⟨b, off + k * 4 + 3, none⟩ = some (.slice ao Y.arms.length cp) := fun t => (t.2.cell (p := ⟨b, _, none⟩) hbl).trans f3
      have U0 : ∀ t : After wr, t.1.cell? ⟨b', off' + k * 4, none⟩ = some (.int .u8 (Y.op : Int)) := fun t => (t.2.cell (p := ⟨b', _, none⟩) hbl').trans g0
      have U1 : ∀ t : After wr, t.1.cell? ⟨b', off' + k * 4 + 1, none⟩ = some (.int .i64 Y.a) := fun t => (t.2.cell (p := ⟨b', _, none⟩) hbl').trans g1
      have U2 : ∀ t : After wr, t.1.cell? ⟨b', off' + k * 4 + 2, none⟩ = some (.int .i64 Y.b) := fun t => (t.2.cell (p := ⟨b', _, none⟩) hbl').trans g2
      have U3 : ∀ t : After wr, t.1.cell? ⟨b', off' + k * 4 + 3, none⟩ = some (.slice ao' Y.arms.length cp') := fun t => (t.2.cell (p := ⟨b', _, none⟩) hbl').trans g3
      have HC : Hid (∀ t : After wr, Calls Tryd.prog 23 #[insV Y (.slice ao Y.arms.length cp), insV Y (.slice ao' Y.arms.length cp')] t.1 fun e w'' => e = .returned (.bool true) ∧ ∃ t' : After wr, w'' = t'.1) := fun t => quiet_new t (sameIns_eq rfl (m1.arms.below t.2) (m2.arms.below t.2) hlen)
      unfold insV at HC
      clear hc hc' m1 m2 L1 L2 f0 f1 f2 f3 g0 g1 g2 g3
      have hlt2 : (k : Int) < (n : Int) := by omega
      have hk0 : (0 : Int) ≤ (k : Int) := by omega
      have HB : Hid (Below w.heap.size w wr) := hb
      clear hb
      go_wp2_with fail
      refine wp_region_after (by kernel_rfl) (by kernel_rfl) ?_
      repeat (go_big_quiet_step (with_reducible exact rfl))
      go_big_quiet_step (exact HC.out _)
      repeat (go_big_quiet_step (with_reducible exact rfl))
      refine wpQuiet_nil ?_
      intro _ hw'
      obtain ⟨t, rfl⟩ := hw'
      have hbt := HB.out.trans (t.2.mono HB.out.size)
      obtain ⟨tw, tb⟩ := t
      simp only at hbt ⊢
      clear T0 T1 T2 T3 U0 U1 U2 U3 HC
      go_wp2
      go_roundw
      case rel => exact ⟨k + 1, hlt, by go_num, hbt⟩
      case measure => simp [intOf]; omega
    · go_wp2
      go_ret
      exact ⟨rfl, hb⟩
end Go.Proofs.YtffnlcamobekoaaDoor
