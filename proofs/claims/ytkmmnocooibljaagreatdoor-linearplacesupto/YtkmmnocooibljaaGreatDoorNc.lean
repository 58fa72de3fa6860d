/-
  The kit's SameLines; how many lines and arms.
-/
import Derived.Test.YtkmmnocooibljaaGreatDoorNb
namespace Go.Proofs.YtkmmnocooibljaaGreatDoor
open Go.RowKit
set_option linter.unusedVariables false

set_option maxHeartbeats 4000000 in
set_option maxRecDepth 100000 in
theorem kSameLines_as {w : World} {a a' : Option Addr} {n n' c c' : Nat} {xs ys : List LnP} (hn : n = xs.length) (hn' : n' = ys.length) (h : LnsIn w a xs) (h' : LnsIn w a' ys) (b : Bool) (hb : b = true ↔ xs.map LnP.l = ys.map LnP.l) :
    Calls Tryz.prog 19 #[.slice a n c, .slice a' n' c'] w fun e w' => e = .returned (.bool b) ∧ Below w.heap.size w w' := by
  by_cases hne : n = n'
  · subst hne
    have HN : Hid (n = xs.length) := hn
    have HN' : Hid (n = ys.length) := hn'
    have H1 : Hid (RowAt w a 5 xs.length (lnF xs)) := h.row
    have H2 : Hid (RowAt w a' 5 ys.length (lnF ys)) := h'.row
    have HX : Hid (∀ x ∈ xs, LnIn w x) := h.each
    have HY : Hid (∀ x ∈ ys, LnIn w x) := h'.each
    have HB : Hid (b = true ↔ xs.map LnP.l = ys.map LnP.l) := hb
    have hm : n ≤ 140737488355328 := by rw [hn]; exact h.mx
    clear hn hn' h h' hb
    go_enter Tryz.func19, Tryz.ntmps19
    go_wp2_with fail
    go_loopw [5] (fun i wr => ∃ k : Nat, k ≤ n ∧ i = .int .i64 (k : Int) ∧ Below w.heap.size w wr ∧ ∀ j, j < k → (xs.getD j zLn).l = (ys.getD j zLn).l) (fun i _ => n - (intOf i).toNat)
    case atStart => exact ⟨0, Nat.zero_le _, rfl, Below.refl _ _, fun j hj => by omega⟩
    case round =>
      obtain ⟨k, hk, rfl, hbel, hpre⟩ := hrel
      by_cases hlt : k < n
      · have hkx : k < xs.length := by rw [← HN.out]; exact hlt
        have hky : k < ys.length := by rw [← HN'.out]; exact hlt
        obtain ⟨b1, o1, ha1, g1⟩ := (H1.out.below hbel).at hkx
        obtain ⟨b2, o2, ha2, g2⟩ := (H2.out.below hbel).at hky
        have hXi := HX.out _ (getD_in (z := zLn) hkx)
        have hYi := HY.out _ (getD_in (z := zLn) hky)
        unfold lnF at g1 g2
        have HP : Hid ((xs.getD k zLn).l = (ys.getD k zLn).l → ∀ j, j < k + 1 → (xs.getD j zLn).l = (ys.getD j zLn).l) := fun q0 j hj => by
          by_cases q : j = k
          · subst q; exact q0
          · exact hpre j (by omega)
        have HF : Hid (¬ (xs.getD k zLn).l = (ys.getD k zLn).l → b = false) := fun q0 => iff_false HB.out (fun q => q0 (getD_of_map zLn q k))
        generalize xs.getD k zLn = X at *
        generalize ys.getD k zLn = Y at *
        subst ha1 ha2
        obtain ⟨t, ht⟩ := some_bool (X.x = Y.x)
        have HC : Hid (∀ W, Below w.heap.size w W → Calls Tryz.prog 32 #[.agg #[.int .u8 (X.x.op : Int), .int .i64 X.x.a, .int .i64 X.x.b, .slice X.ao X.x.arms.length X.cp], .agg #[.int .u8 (Y.x.op : Int), .int .i64 Y.x.a, .int .i64 Y.x.b, .slice Y.ao Y.x.arms.length Y.cp]] W fun e w' => e = .returned (.bool t) ∧ Below W.heap.size W w') := fun W q => sameIns_as (x := X.x) (y := Y.x) rfl rfl (hXi.ins.below q) (hYi.ins.below q) hXi.few t ht
        have HL : Hid (X.l = Y.l ↔ X.lab = Y.lab ∧ t = true) := by
          unfold Hid
          rw [ht]
          unfold LnP.l
          rw [Prod.mk.injEq]
        have dq0 : wr.cell? ⟨b1, o1 + k * 5, none⟩ = some (.int .i64 X.lab) := g1 0 (by omega)
        have d0 : ∀ t : After wr, t.1.cell? ⟨b1, o1 + k * 5, none⟩ = some (.int .i64 X.lab) := fun t => (t.2.cell (p := ⟨b1, _, none⟩) (World.block_lt_of_cell? wr _ dq0)).trans dq0
        have dq1 : wr.cell? ⟨b1, o1 + k * 5 + 1, none⟩ = some (.int .u8 (X.x.op : Int)) := g1 1 (by omega)
        have d1 : ∀ t : After wr, t.1.cell? ⟨b1, o1 + k * 5 + 1, none⟩ = some (.int .u8 (X.x.op : Int)) := fun t => (t.2.cell (p := ⟨b1, _, none⟩) (World.block_lt_of_cell? wr _ dq1)).trans dq1
        have dq2 : wr.cell? ⟨b1, o1 + k * 5 + 2, none⟩ = some (.int .i64 X.x.a) := g1 2 (by omega)
        have d2 : ∀ t : After wr, t.1.cell? ⟨b1, o1 + k * 5 + 2, none⟩ = some (.int .i64 X.x.a) := fun t => (t.2.cell (p := ⟨b1, _, none⟩) (World.block_lt_of_cell? wr _ dq2)).trans dq2
        have dq3 : wr.cell? ⟨b1, o1 + k * 5 + 3, none⟩ = some (.int .i64 X.x.b) := g1 3 (by omega)
        have d3 : ∀ t : After wr, t.1.cell? ⟨b1, o1 + k * 5 + 3, none⟩ = some (.int .i64 X.x.b) := fun t => (t.2.cell (p := ⟨b1, _, none⟩) (World.block_lt_of_cell? wr _ dq3)).trans dq3
        have dq4 : wr.cell? ⟨b1, o1 + k * 5 + 4, none⟩ = some (.slice X.ao X.x.arms.length X.cp) := g1 4 (by omega)
        have d4 : ∀ t : After wr, t.1.cell? ⟨b1, o1 + k * 5 + 4, none⟩ = some (.slice X.ao X.x.arms.length X.cp) := fun t => (t.2.cell (p := ⟨b1, _, none⟩) (World.block_lt_of_cell? wr _ dq4)).trans dq4
        have fq0 : wr.cell? ⟨b2, o2 + k * 5, none⟩ = some (.int .i64 Y.lab) := g2 0 (by omega)
        have f0 : ∀ t : After wr, t.1.cell? ⟨b2, o2 + k * 5, none⟩ = some (.int .i64 Y.lab) := fun t => (t.2.cell (p := ⟨b2, _, none⟩) (World.block_lt_of_cell? wr _ fq0)).trans fq0
        have fq1 : wr.cell? ⟨b2, o2 + k * 5 + 1, none⟩ = some (.int .u8 (Y.x.op : Int)) := g2 1 (by omega)
        have f1 : ∀ t : After wr, t.1.cell? ⟨b2, o2 + k * 5 + 1, none⟩ = some (.int .u8 (Y.x.op : Int)) := fun t => (t.2.cell (p := ⟨b2, _, none⟩) (World.block_lt_of_cell? wr _ fq1)).trans fq1
        have fq2 : wr.cell? ⟨b2, o2 + k * 5 + 2, none⟩ = some (.int .i64 Y.x.a) := g2 2 (by omega)
        have f2 : ∀ t : After wr, t.1.cell? ⟨b2, o2 + k * 5 + 2, none⟩ = some (.int .i64 Y.x.a) := fun t => (t.2.cell (p := ⟨b2, _, none⟩) (World.block_lt_of_cell? wr _ fq2)).trans fq2
        have fq3 : wr.cell? ⟨b2, o2 + k * 5 + 3, none⟩ = some (.int .i64 Y.x.b) := g2 3 (by omega)
        have f3 : ∀ t : After wr, t.1.cell? ⟨b2, o2 + k * 5 + 3, none⟩ = some (.int .i64 Y.x.b) := fun t => (t.2.cell (p := ⟨b2, _, none⟩) (World.block_lt_of_cell? wr _ fq3)).trans fq3
        have fq4 : wr.cell? ⟨b2, o2 + k * 5 + 4, none⟩ = some (.slice Y.ao Y.x.arms.length Y.cp) := g2 4 (by omega)
        have f4 : ∀ t : After wr, t.1.cell? ⟨b2, o2 + k * 5 + 4, none⟩ = some (.slice Y.ao Y.x.arms.length Y.cp) := fun t => (t.2.cell (p := ⟨b2, _, none⟩) (World.block_lt_of_cell? wr _ fq4)).trans fq4
        have Q1 : Hid (∀ z : After wr, Calls Tryz.prog 32 #[.agg #[.int .u8 (X.x.op : Int), .int .i64 X.x.a, .int .i64 X.x.b, .slice X.ao X.x.arms.length X.cp], .agg #[.int .u8 (Y.x.op : Int), .int .i64 Y.x.a, .int .i64 Y.x.b, .slice Y.ao Y.x.arms.length Y.cp]] z.1 fun e w'' => e = .returned (.bool t) ∧ ∃ t' : After wr, w'' = t'.1) := fun z => quiet_new z (HC.out z.1 (hbel.trans (z.2.mono hbel.size)))
        clear g1 g2 hXi hYi hpre H1 H2 HX HY HC ht dq0 dq1 dq2 dq3 dq4 fq0 fq1 fq2 fq3 fq4
        generalize X.l = XL at *
        generalize Y.l = YL at *
        generalize X.lab = pK at *
        generalize (X.x.op : Int) = pO at *
        generalize X.x.a = pA at *
        generalize X.x.b = pB at *
        generalize X.ao = ps at *
        generalize X.x.arms.length = pn at *
        generalize X.cp = pc at *
        generalize Y.lab = qK at *
        generalize (Y.x.op : Int) = qO at *
        generalize Y.x.a = qA at *
        generalize Y.x.b = qB at *
        generalize Y.ao = qs at *
        generalize Y.x.arms.length = qn at *
        generalize Y.cp = qc at *
        have HBEL : Hid (Below w.heap.size w wr) := hbel
        have hlt2 : (k : Int) < (n : Int) := by omega
        have hk0 : (0 : Int) ≤ (k : Int) := by omega
        clear hbel
        by_cases hL : pK = qK
        · subst hL
          have HT : Hid (XL = YL ↔ t = true) := HL.out.trans ⟨fun q => q.2, fun q => ⟨rfl, q⟩⟩
          clear HL
          go_upto_region 6 with fail
          refine wp_region_after (by kernel_rfl) (by kernel_rfl) ?_
          repeat (go_big_quiet_step (with_reducible exact rfl))
          go_big_quiet_step (exact Q1.out _)
          repeat (go_big_quiet_step (with_reducible exact rfl))
          refine wpQuiet_nil ?_
          rintro w3 ⟨t3, e3⟩
          have b3 : Below wr.heap.size wr w3 := by rw [e3]; exact t3.2
          have hb3 := HBEL.out.trans (b3.mono HBEL.out.size)
          clear e3 t3 Q1 b3 HBEL d0 d1 d2 d3 d4 f0 f1 f2 f3 f4
          cases t with
          | true =>
            have HP2 := HP.out (HT.out.2 rfl)
            have HP3 : Hid (∀ j, j < k + 1 → (xs.getD j zLn).l = (ys.getD j zLn).l) := HP2
            clear HP HF HT HP2
            go_wp2
            refine ⟨?rel, ?measure⟩
            case rel => exact ⟨k + 1, hlt, by go_num, hb3, HP3.out⟩
            case measure => simp [intOf]; omega
          | false =>
            obtain rfl : b = false := HF.out (fun q => by have := HT.out.1 q; cases this)
            clear HP HF HT
            go_wp2
            go_ret
            exact ⟨rfl, hb3⟩
        · obtain rfl : b = false := HF.out (fun q => hL (HL.out.1 q).1)
          have hq : (pK == qK) = false := by rw [beq_eq_false_iff_ne]; exact hL
          have hqd : (pK != qK) = true := by simp [bne, hq]
          clear HL HP HF Q1
          go_upto_region 6 with fail
          refine wp_region_after (by kernel_rfl) (by kernel_rfl) ?_
          repeat (go_big_quiet_step (with_reducible exact rfl))
          refine wpQuiet_nil ?_
          rintro w3 ⟨t3, e3⟩
          have b3 : Below wr.heap.size wr w3 := by rw [e3]; exact t3.2
          have hb3 := HBEL.out.trans (b3.mono HBEL.out.size)
          clear e3 t3 b3 HBEL d0 d1 d2 d3 d4 f0 f1 f2 f3 f4
          go_wp2
          go_ret
          exact ⟨rfl, hb3⟩
      · obtain rfl : k = n := by omega
        obtain rfl : b = true := HB.out.2 (list_eq_map zLn (by rw [← HN.out, ← HN'.out]) (fun j hj => hpre j (by rw [HN.out]; exact hj)))
        go_wp2
        go_ret
        exact ⟨rfl, hbel⟩
  · obtain rfl : b = false := iff_false hb (fun q => hne (by rw [hn, hn', ← List.length_map (f := LnP.l), q, List.length_map]))
    have hq : ((n : Int) == (n' : Int)) = false := by rw [beq_eq_false_iff_ne]; omega
    clear h h' hb hn hn'
    generalize (n : Int) = N at *
    generalize (n' : Int) = N' at *
    go_enter Tryz.func19, Tryz.ntmps19
    go_wp2
    go_ret
    exact ⟨rfl, Below.refl _ _⟩
set_option maxHeartbeats 4000000 in
set_option maxRecDepth 100000 in
theorem kWide_as {w : World} {a : Option Addr} {n c : Nat} {xs : List LnP} (hn : n = xs.length) (h : LnsIn w a xs) :
    Calls Tryz.prog 39 #[.slice a n c] w fun e w' => ∃ r : Int, e = .returned (.int .i64 r) ∧ Below w.heap.size w w' := by
  have HN : Hid (n = xs.length) := hn
  have H1 : Hid (RowAt w a 5 xs.length (lnF xs)) := h.row
  have hm : n ≤ 140737488355328 := by rw [hn]; exact h.mx
  clear hn h
  go_enter Tryz.func39, Tryz.ntmps39
  go_wp2_with fail
  go_loopw [3, 4] (fun s i wr => (∃ r : Int, s = .int .i64 r) ∧ ∃ k : Nat, k ≤ n ∧ i = .int .i64 (k : Int) ∧ wr = w) (fun _ i _ => n - (intOf i).toNat)
  case atStart => exact ⟨⟨_, rfl⟩, 0, Nat.zero_le _, rfl, rfl⟩
  case round =>
    obtain ⟨⟨r, rfl⟩, k, hk, rfl, rfl⟩ := hrel
    by_cases hlt : k < n
    · have hkx : k < xs.length := by rw [← HN.out]; exact hlt
      obtain ⟨b1, o1, rfl, g1⟩ := H1.out.at hkx
      unfold lnF at g1
      generalize xs.getD k zLn = X at *
      have d4 : wr.cell? ⟨b1, o1 + k * 5 + 4, none⟩ = some (.slice X.ao X.x.arms.length X.cp) := g1 4 (by omega)
      generalize X.ao = pa at *
      generalize X.x.arms.length = pn at *
      generalize X.cp = pc at *
      have hlt2 : (k : Int) < (n : Int) := by omega
      have hk0 : (0 : Int) ≤ (k : Int) := by omega
      clear g1 H1
      go_wp2
      refine ⟨⟨⟨_, rfl⟩, k + 1, hlt, by go_num, trivial⟩, ?_⟩
      simp [intOf]; omega
    · obtain rfl : k = n := by omega
      go_wp2
      go_ret
      exact ⟨_, rfl, Below.refl _ _⟩
set_option maxHeartbeats 4000000 in
set_option maxRecDepth 100000 in
theorem few_as {w : World} {a : Option Addr} {n c : Nat} {xs : List LnP} (hn : n = xs.length) (h : LnsIn w a xs) :
    Calls Tryz.prog 9 #[.slice a n c] w fun e w' => ∃ b : Bool, e = .returned (.bool b) ∧ Below w.heap.size w w' := by
  have hC := kWide_as (c := c) hn h
  clear hn h
  go_enter Tryz.func9, Tryz.ntmps9
  go_wp2_with fail
  refine Calls.mono hC ?_
  rintro e w3 ⟨r, rfl, b3⟩
  go_wp2
  go_ret
  exact ⟨_, rfl, b3⟩
end Go.Proofs.YtkmmnocooibljaaGreatDoor
