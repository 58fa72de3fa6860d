/-
  THE KIT'S SameModule.
-/
import Derived.Test.YtghkanagiobggaaMs3
namespace Go.Proofs.Ytghkanagiobggaa
open Go.RowKit
set_option linter.unusedVariables false

theorem cells3a {w : World} {g : Nat} {a0 a1 a2 : Value} {t : TypeId} (h : Own w g #[a0, a1, a2] t) : (∀ t : After w, t.1.cell? ⟨g, 0, none⟩ = some a0) ∧ (∀ t : After w, t.1.cell? ⟨g, 1, none⟩ = some a1) ∧ (∀ t : After w, t.1.cell? ⟨g, 2, none⟩ = some a2) :=
  ⟨fun t => (h.below t.2).cell 0, fun t => (h.below t.2).cell 1, fun t => (h.below t.2).cell 2⟩
theorem at_after {w : World} {b o : Nat} {u : Value} (h : w.cell? ⟨b, o, none⟩ = some u) : ∀ t : After w, t.1.cell? ⟨b, o, none⟩ = some u := fun t => (t.2.cell (p := ⟨b, o, none⟩) (World.block_lt_of_cell? w _ h)).trans h
set_option maxHeartbeats 8000000 in
set_option maxRecDepth 100000 in
theorem kSameModule_as {w : World} {A B : MoP} (hA : MoIn w A) (hB : MoIn w B) (b : Bool) (hb : b = true ↔ A.mo = B.mo) :
    Calls Try.prog 7 #[.agg A.cs, .agg B.cs] w fun e w' => e = .returned (.bool b) ∧ Below w.heap.size w w' := by
  have o1 := (Own.new w A.cs 26).alloc (.cells B.cs 26)
  have o2 := Own.new (w.alloc (.cells A.cs 26)) B.cs 26
  rw [World.size_alloc] at o2
  have hb0 : Below w.heap.size w ((w.alloc (.cells A.cs 26)).alloc (.cells B.cs 26)) := (new_below _ _).alloc (by simp) _
  have HA : Hid (∀ W, Below w.heap.size w W → MoIn W A) := fun W q => hA.below q
  have HBB : Hid (∀ W, Below w.heap.size w W → MoIn W B) := fun W q => hB.below q
  have HB : Hid (b = true ↔ A.tys.map TyP.t = B.tys.map TyP.t ∧ A.txs = B.txs ∧ A.fns.map RoP.r = B.fns.map RoP.r) := hb.trans (by unfold MoP.mo; simp only [Mo.mk.injEq])
  have hn1 : A.tys.length ≤ 140737488355328 := hA.tmx
  have hn2 : A.txs.length ≤ 140737488355328 := hA.smx
  have hn3 : A.fns.length ≤ 140737488355328 := hA.fmx
  unfold MoP.cs at *
  clear hA hB hb
  obtain ⟨n1, HN1⟩ : ∃ n, Hid (A.tys.length = n) := ⟨_, rfl⟩
  obtain ⟨n2, HN2⟩ : ∃ n, Hid (A.txs.length = n) := ⟨_, rfl⟩
  obtain ⟨n3, HN3⟩ : ∃ n, Hid (A.fns.length = n) := ⟨_, rfl⟩
  obtain ⟨m1, HM1⟩ : ∃ n, Hid (B.tys.length = n) := ⟨_, rfl⟩
  obtain ⟨m2, HM2⟩ : ∃ n, Hid (B.txs.length = n) := ⟨_, rfl⟩
  obtain ⟨m3, HM3⟩ : ∃ n, Hid (B.fns.length = n) := ⟨_, rfl⟩
  obtain ⟨at1, AT1⟩ : ∃ n, Hid (A.ta = n) := ⟨_, rfl⟩
  obtain ⟨as1, AS1⟩ : ∃ n, Hid (A.sa = n) := ⟨_, rfl⟩
  obtain ⟨af1, AF1⟩ : ∃ n, Hid (A.fa = n) := ⟨_, rfl⟩
  obtain ⟨bt1, BT1⟩ : ∃ n, Hid (B.ta = n) := ⟨_, rfl⟩
  obtain ⟨bs1, BS1⟩ : ∃ n, Hid (B.sa = n) := ⟨_, rfl⟩
  obtain ⟨bf1, BF1⟩ : ∃ n, Hid (B.fa = n) := ⟨_, rfl⟩
  rw [HN1.out, HN2.out, HN3.out, AT1.out, AS1.out, AF1.out] at o1
  rw [HM1.out, HM2.out, HM3.out, BT1.out, BS1.out, BF1.out] at o1
  rw [HN1.out, HN2.out, HN3.out, AT1.out, AS1.out, AF1.out] at o2
  rw [HM1.out, HM2.out, HM3.out, BT1.out, BS1.out, BF1.out] at o2
  rw [HN1.out, HN2.out, HN3.out, AT1.out, AS1.out, AF1.out] at hb0
  rw [HM1.out, HM2.out, HM3.out, BT1.out, BS1.out, BF1.out] at hb0
  rw [HN1.out, HN2.out, HN3.out, AT1.out, AS1.out, AF1.out]
  rw [HM1.out, HM2.out, HM3.out, BT1.out, BS1.out, BF1.out]
  rw [HN1.out] at hn1
  rw [HN2.out] at hn2
  rw [HN3.out] at hn3
  generalize A.tc = ac1 at *
  generalize A.sc = ac2 at *
  generalize A.fc = ac3 at *
  generalize B.tc = bc1 at *
  generalize B.sc = bc2 at *
  generalize B.fc = bc3 at *
  go_enter Try.func7, Try.ntmps7
  go_upto_region 1 with fail
  generalize (w.alloc (.cells #[.slice at1 n1 ac1, .slice as1 n2 ac2, .slice af1 n3 ac3] 26)).alloc (.cells #[.slice bt1 m1 bc1, .slice bs1 m2 bc2, .slice bf1 m3 bc3] 26) = w2 at *
  obtain ⟨x0, x1, x2, xf⟩ := own3 o1
  obtain ⟨y0, y1, y2, yf⟩ := own3 o2
  by_cases hl1 : n1 = m1
  · subst hl1
    by_cases hl2 : n2 = m2
    · subst hl2
      by_cases hl3 : n3 = m3
      · subst hl3
        have HO1 : Hid (Own w2 w.heap.size #[.slice at1 n1 ac1, .slice as1 n2 ac2, .slice af1 n3 ac3] 26) := o1
        have HO2 : Hid (Own w2 (w.heap.size + 1) #[.slice bt1 n1 bc1, .slice bs1 n2 bc2, .slice bf1 n3 bc3] 26) := o2
        have HBE : Hid (Below w.heap.size w w2) := hb0
        clear o1 o2 hb0
        go_wp2_with fail
        clear x0 x1 x2 xf y0 y1 y2 yf
        go_loopw [5] (fun i wr => ∃ k : Nat, k ≤ n1 ∧ i = .int .i64 (k : Int) ∧ Below w2.heap.size w2 wr ∧ ∀ j, j < k → (A.tys.getD j zTP).t = (B.tys.getD j zTP).t) (fun i _ => n1 - (intOf i).toNat)
        case atStart => exact ⟨0, Nat.zero_le _, rfl, Below.refl _ _, fun j hj => by omega⟩
        case round =>
          obtain ⟨k, hk, rfl, hbel, hpre⟩ := hrel
          have o1 := HO1.out.below hbel
          have o2 := HO2.out.below hbel
          have hbw := HBE.out.trans (hbel.mono HBE.out.size)
          by_cases hlt : k < n1
          · have hkx : k < A.tys.length := by rw [HN1.out]; exact hlt
            have hky : k < B.tys.length := by rw [HM1.out]; exact hlt
            obtain ⟨b1, o1', ha1, g1⟩ := (HA.out wr hbw).tyr.at hkx
            obtain ⟨b2, o2', ha2, g2⟩ := (HBB.out wr hbw).tyr.at hky
            have hx0 : at1 = some ⟨b1, o1', none⟩ := by rw [← AT1.out]; exact ha1
            have hy0 : bt1 = some ⟨b2, o2', none⟩ := by rw [← BT1.out]; exact ha2
            rw [hx0] at o1
            rw [hy0] at o2
            obtain ⟨x0, x1, x2⟩ := cells3a o1
            obtain ⟨y0, y1, y2⟩ := cells3a o2
            unfold tyF at g1 g2
            obtain ⟨b', hb'⟩ := some_bool ((A.tys.getD k zTP).t = (B.tys.getD k zTP).t)
            have HP : Hid (b' = true → ∀ j, j < k + 1 → (A.tys.getD j zTP).t = (B.tys.getD j zTP).t) := fun q0 j hj => by
              by_cases q : j = k
              · subst q; exact hb'.1 q0
              · exact hpre j (by omega)
            have HF : Hid (b' = false → b = false) := fun q0 => iff_false HB.out (fun q => by
              have := hb'.2 (getD_of_map zTP q.1 k)
              rw [q0] at this; cases this)
            have hXi := (HA.out wr hbw).ty _ (getD_in (z := zTP) hkx)
            have hYi := (HBB.out wr hbw).ty _ (getD_in (z := zTP) hky)
            generalize A.tys.getD k zTP = X at *
            generalize B.tys.getD k zTP = Y at *
            have Q1 : Hid (∀ t : After wr, Calls Try.prog 15 #[.agg #[.int .u8 (X.t.kind : Int), .string X.t.name, .slice X.fa X.t.fields.length X.fc, .int .i64 X.t.elem, .int .i64 X.t.len], .agg #[.int .u8 (Y.t.kind : Int), .string Y.t.name, .slice Y.fa Y.t.fields.length Y.fc, .int .i64 Y.t.elem, .int .i64 Y.t.len]] t.1 fun e w'' => e = .returned (.bool b') ∧ ∃ t' : After wr, w'' = t'.1) := fun t => quiet_new t (kty_in (hXi.below t.2) (hYi.below t.2) b' hb')
            have d0 : ∀ t : After wr, t.1.cell? ⟨b1, o1' + k * 5, none⟩ = some (.int .u8 (X.t.kind : Int)) := at_after (g1 0 (by omega))
            have f0 : ∀ t : After wr, t.1.cell? ⟨b2, o2' + k * 5, none⟩ = some (.int .u8 (Y.t.kind : Int)) := at_after (g2 0 (by omega))
            have d1 : ∀ t : After wr, t.1.cell? ⟨b1, o1' + k * 5 + 1, none⟩ = some (.string X.t.name) := at_after (g1 1 (by omega))
            have f1 : ∀ t : After wr, t.1.cell? ⟨b2, o2' + k * 5 + 1, none⟩ = some (.string Y.t.name) := at_after (g2 1 (by omega))
            have d2 : ∀ t : After wr, t.1.cell? ⟨b1, o1' + k * 5 + 2, none⟩ = some (.slice X.fa X.t.fields.length X.fc) := at_after (g1 2 (by omega))
            have f2 : ∀ t : After wr, t.1.cell? ⟨b2, o2' + k * 5 + 2, none⟩ = some (.slice Y.fa Y.t.fields.length Y.fc) := at_after (g2 2 (by omega))
            have d3 : ∀ t : After wr, t.1.cell? ⟨b1, o1' + k * 5 + 3, none⟩ = some (.int .i64 X.t.elem) := at_after (g1 3 (by omega))
            have f3 : ∀ t : After wr, t.1.cell? ⟨b2, o2' + k * 5 + 3, none⟩ = some (.int .i64 Y.t.elem) := at_after (g2 3 (by omega))
            have d4 : ∀ t : After wr, t.1.cell? ⟨b1, o1' + k * 5 + 4, none⟩ = some (.int .i64 X.t.len) := at_after (g1 4 (by omega))
            have f4 : ∀ t : After wr, t.1.cell? ⟨b2, o2' + k * 5 + 4, none⟩ = some (.int .i64 Y.t.len) := at_after (g2 4 (by omega))
            clear g1 g2 hXi hYi hb' hpre
            generalize (X.t.kind : Int) = pK at *
            generalize X.t.name = ps at *
            generalize X.fa = pa at *
            generalize X.t.fields.length = pn at *
            generalize X.fc = pc at *
            generalize X.t.elem = pE at *
            generalize X.t.len = pL at *
            generalize (Y.t.kind : Int) = qK at *
            generalize Y.t.name = qs at *
            generalize Y.fa = qa at *
            generalize Y.t.fields.length = qn at *
            generalize Y.fc = qc at *
            generalize Y.t.elem = qE at *
            generalize Y.t.len = qL at *
            have hlt2 : (k : Int) < (n1 : Int) := by omega
            have hk0 : (0 : Int) ≤ (k : Int) := by omega
            clear ha1 ha2
            subst hx0 hy0
            have hz0 := (cells3a o1).1 ⟨wr, Below.refl _ _⟩
            have hz1 := (cells3a o2).1 ⟨wr, Below.refl _ _⟩
            go_wp2_with fail
            refine wp_region_after (by kernel_rfl) (by kernel_rfl) ?_
            repeat (go_big_quiet_step (with_reducible exact rfl))
            go_big_quiet_step (exact Q1.out _)
            repeat (go_big_quiet_step (with_reducible exact rfl))
            refine wpQuiet_nil ?_
            rintro w6 ⟨t6, e6⟩
            have b6 : Below wr.heap.size wr w6 := by rw [e6]; exact t6.2
            clear e6 t6 Q1 d0 f0 d1 f1 d2 f2 d3 f3 d4 f4 x0 x1 x2 y0 y1 y2
            replace hbel := hbel.trans (b6.mono hbel.size)
            replace hbw := hbw.trans (b6.mono hbw.size)
            clear b6 o1 o2 hz0 hz1
            cases b' with
            | true =>
              have HP2 : Hid (∀ j, j < k + 1 → (A.tys.getD j zTP).t = (B.tys.getD j zTP).t) := HP.out rfl
              clear HP HF
              go_wp2
              go_roundw
              case rel => exact ⟨k + 1, hlt, by go_num, hbel, HP2.out⟩
              case measure => simp [intOf]; omega
            | false =>
              obtain rfl : b = false := HF.out rfl
              clear HP HF
              go_wp2
              go_ret
              exact ⟨rfl, hbw⟩
          · obtain rfl : k = n1 := by omega
            have E1 : Hid (A.tys.map TyP.t = B.tys.map TyP.t) := list_eq_map zTP (by rw [HN1.out, HM1.out]) (fun j hj => hpre j (by rw [← HN1.out]; exact hj))
            have HB5 : Hid (Below w2.heap.size w2 wr) := hbel
            obtain ⟨x0, x1, x2, xf⟩ := own3 o1
            obtain ⟨y0, y1, y2, yf⟩ := own3 o2
            clear hbel hpre hbw
            go_wp2_with fail
            clear x0 x1 x2 xf y0 y1 y2 yf o1 o2
            go_loopw [6] (fun i wr => ∃ k : Nat, k ≤ n2 ∧ i = .int .i64 (k : Int) ∧ Below w2.heap.size w2 wr ∧ ∀ j, j < k → (A.txs.getD j ⟨#[]⟩) = (B.txs.getD j ⟨#[]⟩)) (fun i _ => n2 - (intOf i).toNat)
            case atStart => exact ⟨0, Nat.zero_le _, rfl, HB5.out, fun j hj => by omega⟩
            case round =>
              obtain ⟨k, hk, rfl, hbel, hpre⟩ := hrel
              have o1 := HO1.out.below hbel
              have o2 := HO2.out.below hbel
              have hbw := HBE.out.trans (hbel.mono HBE.out.size)
              by_cases hlt : k < n2
              · have hkx : k < A.txs.length := by rw [HN2.out]; exact hlt
                have hky : k < B.txs.length := by rw [HM2.out]; exact hlt
                obtain ⟨b1, o1', ha1, g1⟩ := (HA.out wr hbw).txr.at hkx
                obtain ⟨b2, o2', ha2, g2⟩ := (HBB.out wr hbw).txr.at hky
                have hx0 : as1 = some ⟨b1, o1', none⟩ := by rw [← AS1.out]; exact ha1
                have hy0 : bs1 = some ⟨b2, o2', none⟩ := by rw [← BS1.out]; exact ha2
                rw [hx0] at o1
                rw [hy0] at o2
                obtain ⟨x0, x1, x2⟩ := cells3a o1
                obtain ⟨y0, y1, y2⟩ := cells3a o2
                unfold txF at g1 g2
                obtain ⟨b', hb'⟩ := some_bool ((A.txs.getD k ⟨#[]⟩) = (B.txs.getD k ⟨#[]⟩))
                have HP : Hid (b' = true → ∀ j, j < k + 1 → (A.txs.getD j ⟨#[]⟩) = (B.txs.getD j ⟨#[]⟩)) := fun q0 j hj => by
                  by_cases q : j = k
                  · subst q; exact hb'.1 q0
                  · exact hpre j (by omega)
                have HF : Hid (b' = false → b = false) := fun q0 => iff_false HB.out (fun q => by
                  have := hb'.2 (by rw [q.2.1])
                  rw [q0] at this; cases this)
                generalize A.txs.getD k ⟨#[]⟩ = X at *
                generalize B.txs.getD k ⟨#[]⟩ = Y at *
                have d0 : ∀ t : After wr, t.1.cell? ⟨b1, o1' + k, none⟩ = some (.string X) := at_after (by have := g1 0 (by omega); rw [Nat.mul_one] at this; exact this)
                have f0 : ∀ t : After wr, t.1.cell? ⟨b2, o2' + k, none⟩ = some (.string Y) := at_after (by have := g2 0 (by omega); rw [Nat.mul_one] at this; exact this)
                have hss : (X.toList == Y.toList) = b' := by
                  cases b' with
                  | true => rw [hb'.1 rfl]; exact ba_self _
                  | false => exact ba_ne (fun q => by have := hb'.2 q; cases this)
                clear g1 g2 hb' hpre
                have hlt2 : (k : Int) < (n2 : Int) := by omega
                have hk0 : (0 : Int) ≤ (k : Int) := by omega
                clear ha1 ha2
                subst hx0 hy0
                have hz0 := (cells3a o1).2.1 ⟨wr, Below.refl _ _⟩
                have hz1 := (cells3a o2).2.1 ⟨wr, Below.refl _ _⟩
                go_wp2_with fail
                refine wp_region_after (by kernel_rfl) (by kernel_rfl) ?_
                repeat (go_big_quiet_step (with_reducible exact rfl))
                refine wpQuiet_nil ?_
                rintro w6 ⟨t6, e6⟩
                have b6 : Below wr.heap.size wr w6 := by rw [e6]; exact t6.2
                clear e6 t6  d0 f0 x0 x1 x2 y0 y1 y2
                replace hbel := hbel.trans (b6.mono hbel.size)
                replace hbw := hbw.trans (b6.mono hbw.size)
                clear b6 o1 o2 hz0 hz1
                cases b' with
                | true =>
                  have HP2 : Hid (∀ j, j < k + 1 → (A.txs.getD j ⟨#[]⟩) = (B.txs.getD j ⟨#[]⟩)) := HP.out rfl
                  clear HP HF
                  go_wp2
                  go_roundw
                  case rel => exact ⟨k + 1, hlt, by go_num, hbel, HP2.out⟩
                  case measure => simp [intOf]; omega
                | false =>
                  obtain rfl : b = false := HF.out rfl
                  clear HP HF
                  go_wp2
                  go_ret
                  exact ⟨rfl, hbw⟩
              · obtain rfl : k = n2 := by omega
                have E2 : Hid (A.txs = B.txs) := list_eq ⟨#[]⟩ (by rw [HN2.out, HM2.out]) (fun j hj => hpre j (by rw [← HN2.out]; exact hj))
                have HB6 : Hid (Below w2.heap.size w2 wr) := hbel
                obtain ⟨x0, x1, x2, xf⟩ := own3 o1
                obtain ⟨y0, y1, y2, yf⟩ := own3 o2
                clear hbel hpre hbw
                go_wp2_with fail
                clear x0 x1 x2 xf y0 y1 y2 yf o1 o2
                go_loopw [7] (fun i wr => ∃ k : Nat, k ≤ n3 ∧ i = .int .i64 (k : Int) ∧ Below w2.heap.size w2 wr ∧ ∀ j, j < k → (A.fns.getD j zRP).r = (B.fns.getD j zRP).r) (fun i _ => n3 - (intOf i).toNat)
                case atStart => exact ⟨0, Nat.zero_le _, rfl, HB6.out, fun j hj => by omega⟩
                case round =>
                  obtain ⟨k, hk, rfl, hbel, hpre⟩ := hrel
                  have o1 := HO1.out.below hbel
                  have o2 := HO2.out.below hbel
                  have hbw := HBE.out.trans (hbel.mono HBE.out.size)
                  by_cases hlt : k < n3
                  · have hkx : k < A.fns.length := by rw [HN3.out]; exact hlt
                    have hky : k < B.fns.length := by rw [HM3.out]; exact hlt
                    obtain ⟨b1, o1', ha1, g1⟩ := (HA.out wr hbw).fnr.at hkx
                    obtain ⟨b2, o2', ha2, g2⟩ := (HBB.out wr hbw).fnr.at hky
                    have hx0 : af1 = some ⟨b1, o1', none⟩ := by rw [← AF1.out]; exact ha1
                    have hy0 : bf1 = some ⟨b2, o2', none⟩ := by rw [← BF1.out]; exact ha2
                    rw [hx0] at o1
                    rw [hy0] at o2
                    obtain ⟨x0, x1, x2⟩ := cells3a o1
                    obtain ⟨y0, y1, y2⟩ := cells3a o2
                    unfold roF at g1 g2
                    obtain ⟨b', hb'⟩ := some_bool ((A.fns.getD k zRP).r = (B.fns.getD k zRP).r)
                    have HP : Hid (b' = true → ∀ j, j < k + 1 → (A.fns.getD j zRP).r = (B.fns.getD j zRP).r) := fun q0 j hj => by
                      by_cases q : j = k
                      · subst q; exact hb'.1 q0
                      · exact hpre j (by omega)
                    have HF : Hid (b' = false → b = false) := fun q0 => iff_false HB.out (fun q => by
                      have := hb'.2 (getD_of_map zRP q.2.2 k)
                      rw [q0] at this; cases this)
                    have hXi := (HA.out wr hbw).fn _ (getD_in (z := zRP) hkx)
                    have hYi := (HBB.out wr hbw).fn _ (getD_in (z := zRP) hky)
                    generalize A.fns.getD k zRP = X at *
                    generalize B.fns.getD k zRP = Y at *
                    have Q1 : Hid (∀ t : After wr, Calls Try.prog 16 #[.agg #[.string X.r.name, .slice X.pa X.r.params.length X.pc, .slice X.ra X.r.results.length X.rc, .int .i64 X.r.locals, .int .i64 X.r.stack, .slice X.ca X.r.code.length X.cc], .agg #[.string Y.r.name, .slice Y.pa Y.r.params.length Y.pc, .slice Y.ra Y.r.results.length Y.rc, .int .i64 Y.r.locals, .int .i64 Y.r.stack, .slice Y.ca Y.r.code.length Y.cc]] t.1 fun e w'' => e = .returned (.bool b') ∧ ∃ t' : After wr, w'' = t'.1) := fun t => quiet_new t (kro_in (hXi.below t.2) (hYi.below t.2) b' hb')
                    have d0 : ∀ t : After wr, t.1.cell? ⟨b1, o1' + k * 6, none⟩ = some (.string X.r.name) := at_after (g1 0 (by omega))
                    have f0 : ∀ t : After wr, t.1.cell? ⟨b2, o2' + k * 6, none⟩ = some (.string Y.r.name) := at_after (g2 0 (by omega))
                    have d1 : ∀ t : After wr, t.1.cell? ⟨b1, o1' + k * 6 + 1, none⟩ = some (.slice X.pa X.r.params.length X.pc) := at_after (g1 1 (by omega))
                    have f1 : ∀ t : After wr, t.1.cell? ⟨b2, o2' + k * 6 + 1, none⟩ = some (.slice Y.pa Y.r.params.length Y.pc) := at_after (g2 1 (by omega))
                    have d2 : ∀ t : After wr, t.1.cell? ⟨b1, o1' + k * 6 + 2, none⟩ = some (.slice X.ra X.r.results.length X.rc) := at_after (g1 2 (by omega))
                    have f2 : ∀ t : After wr, t.1.cell? ⟨b2, o2' + k * 6 + 2, none⟩ = some (.slice Y.ra Y.r.results.length Y.rc) := at_after (g2 2 (by omega))
                    have d3 : ∀ t : After wr, t.1.cell? ⟨b1, o1' + k * 6 + 3, none⟩ = some (.int .i64 X.r.locals) := at_after (g1 3 (by omega))
                    have f3 : ∀ t : After wr, t.1.cell? ⟨b2, o2' + k * 6 + 3, none⟩ = some (.int .i64 Y.r.locals) := at_after (g2 3 (by omega))
                    have d4 : ∀ t : After wr, t.1.cell? ⟨b1, o1' + k * 6 + 4, none⟩ = some (.int .i64 X.r.stack) := at_after (g1 4 (by omega))
                    have f4 : ∀ t : After wr, t.1.cell? ⟨b2, o2' + k * 6 + 4, none⟩ = some (.int .i64 Y.r.stack) := at_after (g2 4 (by omega))
                    have d5 : ∀ t : After wr, t.1.cell? ⟨b1, o1' + k * 6 + 5, none⟩ = some (.slice X.ca X.r.code.length X.cc) := at_after (g1 5 (by omega))
                    have f5 : ∀ t : After wr, t.1.cell? ⟨b2, o2' + k * 6 + 5, none⟩ = some (.slice Y.ca Y.r.code.length Y.cc) := at_after (g2 5 (by omega))
                    clear g1 g2 hXi hYi hb' hpre
                    generalize X.r.name = ps at *
                    generalize X.pa = pa at *
                    generalize X.r.params.length = pn at *
                    generalize X.pc = pc at *
                    generalize X.ra = pA at *
                    generalize X.r.results.length = pN at *
                    generalize X.rc = pC at *
                    generalize X.r.locals = pL at *
                    generalize X.r.stack = pS at *
                    generalize X.ca = pd at *
                    generalize X.r.code.length = pM at *
                    generalize X.cc = pD at *
                    generalize Y.r.name = qs at *
                    generalize Y.pa = qa at *
                    generalize Y.r.params.length = qn at *
                    generalize Y.pc = qc at *
                    generalize Y.ra = qA at *
                    generalize Y.r.results.length = qN at *
                    generalize Y.rc = qC at *
                    generalize Y.r.locals = qL at *
                    generalize Y.r.stack = qS at *
                    generalize Y.ca = qd at *
                    generalize Y.r.code.length = qM at *
                    generalize Y.cc = qD at *
                    have hlt2 : (k : Int) < (n3 : Int) := by omega
                    have hk0 : (0 : Int) ≤ (k : Int) := by omega
                    clear ha1 ha2
                    subst hx0 hy0
                    have hz0 := (cells3a o1).2.2 ⟨wr, Below.refl _ _⟩
                    have hz1 := (cells3a o2).2.2 ⟨wr, Below.refl _ _⟩
                    go_wp2_with fail
                    refine wp_region_after (by kernel_rfl) (by kernel_rfl) ?_
                    repeat (go_big_quiet_step (with_reducible exact rfl))
                    go_big_quiet_step (exact Q1.out _)
                    repeat (go_big_quiet_step (with_reducible exact rfl))
                    refine wpQuiet_nil ?_
                    rintro w6 ⟨t6, e6⟩
                    have b6 : Below wr.heap.size wr w6 := by rw [e6]; exact t6.2
                    clear e6 t6 Q1 d0 f0 d1 f1 d2 f2 d3 f3 d4 f4 d5 f5 x0 x1 x2 y0 y1 y2
                    replace hbel := hbel.trans (b6.mono hbel.size)
                    replace hbw := hbw.trans (b6.mono hbw.size)
                    clear b6 o1 o2 hz0 hz1
                    cases b' with
                    | true =>
                      have HP2 : Hid (∀ j, j < k + 1 → (A.fns.getD j zRP).r = (B.fns.getD j zRP).r) := HP.out rfl
                      clear HP HF
                      go_wp2
                      go_roundw
                      case rel => exact ⟨k + 1, hlt, by go_num, hbel, HP2.out⟩
                      case measure => simp [intOf]; omega
                    | false =>
                      obtain rfl : b = false := HF.out rfl
                      clear HP HF
                      go_wp2
                      go_ret
                      exact ⟨rfl, hbw⟩
                  · obtain rfl : k = n3 := by omega
                    have E3 : Hid (A.fns.map RoP.r = B.fns.map RoP.r) := list_eq_map zRP (by rw [HN3.out, HM3.out]) (fun j hj => hpre j (by rw [← HN3.out]; exact hj))
                    have HB7 : Hid (Below w2.heap.size w2 wr) := hbel
                    obtain ⟨x0, x1, x2, xf⟩ := own3 o1
                    obtain ⟨y0, y1, y2, yf⟩ := own3 o2
                    obtain rfl : b = true := HB.out.2 ⟨E1.out, E2.out, E3.out⟩
                    go_wp2
                    go_ret
                    exact ⟨rfl, hbw⟩
      · obtain rfl : b = false := iff_false HB.out (fun q => hl3 (by rw [← HN3.out, ← HM3.out, ← List.length_map (f := RoP.r), q.2.2, List.length_map]))
        have hq : ((n3 : Int) == (m3 : Int)) = false := by rw [beq_eq_false_iff_ne]; omega
        have hq2 : ((n3 : Int) != (m3 : Int)) = true := by rw [bne, hq]; rfl
        clear HA HBB HB hl3 HN1 HN2 HN3 HM1 HM2 HM3
        go_wp2
        go_ret
        exact ⟨rfl, hb0⟩
    · obtain rfl : b = false := iff_false HB.out (fun q => hl2 (by rw [← HN2.out, ← HM2.out, q.2.1]))
      have hq : ((n2 : Int) == (m2 : Int)) = false := by rw [beq_eq_false_iff_ne]; omega
      have hq2 : ((n2 : Int) != (m2 : Int)) = true := by rw [bne, hq]; rfl
      clear HA HBB HB hl2 HN1 HN2 HN3 HM1 HM2 HM3
      go_wp2
      go_ret
      exact ⟨rfl, hb0⟩
  · obtain rfl : b = false := iff_false HB.out (fun q => hl1 (by rw [← HN1.out, ← HM1.out, ← List.length_map (f := TyP.t), q.1, List.length_map]))
    have hq : ((n1 : Int) == (m1 : Int)) = false := by rw [beq_eq_false_iff_ne]; omega
    have hq2 : ((n1 : Int) != (m1 : Int)) = true := by rw [bne, hq]; rfl
    clear HA HBB HB hl1 HN1 HN2 HN3 HM1 HM2 HM3
    go_wp2
    go_ret
    exact ⟨rfl, hb0⟩
end Go.Proofs.Ytghkanagiobggaa
