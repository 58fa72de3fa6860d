/-
  CONTRACTS of the document's own Target, Enter.
-/
import Derived.Test.YtnnajgbkpilaaaaRfB
namespace Go.Proofs.Ytnnajgbkpilaaaa
open Go.RowKit
set_option linter.unusedVariables false
set_option linter.unusedSimpArgs false

def condB (nm : ByteArray) (b : Bool) (t : T) : Bool := (decide (nm = empt) || decide (t.label = nm)) && (t.loop || !b)
theorem rt_cells' {w : World} {g n cap : Nat} {m : M} (h : Rw w 91 3 (.slice (some ⟨g, 0, none⟩) n cap) n m.rowRT) {k : Nat} {t : T} (ht : m.turns[k]? = some t) :
    w.cell? ⟨g, k * 3, none⟩ = some (.string t.label) ∧ w.cell? ⟨g, k * 3 + 1, none⟩ = some (.bool t.loop) ∧ w.cell? ⟨g, k * 3 + 2, none⟩ = some (.int .i64 (t.no : Int)) := by
  obtain ⟨hk, rfl⟩ := List.getElem?_eq_some_iff.1 ht
  exact rt_cells h hk
def RtRel (m : M) (nm : ByteArray) (b : Bool) (w : World) (n : Nat) (iv : Value) (wr : World) : Prop :=
  ∃ k : Nat, k ≤ n ∧ iv = .int .i64 ((k : Int) - 1) ∧ (∀ i (hi : i < m.turns.length), k ≤ i → condB nm b m.turns[i] = false) ∧ Below w.heap.size w wr
set_option maxRecDepth 100000 in
set_option maxHeartbeats 4000000 in
theorem rTarget {w : World} {p : Nat} {m : M} {F : Nat → Prop} (h : RfAt w p m F) (hn : m.turns.length ≤ 100000) (nm : ByteArray) (b : Bool) : Calls Try.prog 38 #[.pointer (some ⟨p, 0, none⟩), .string nm, .bool b] w fun e w' => e = .returned (.tuple #[.int .i64 (m.tgtV nm b : Int), .int .i64 (m.tgtE nm b : Int)]) ∧ Below w.heap.size w w' := by
  obtain ⟨v1, v2, v3, H, hF, hl⟩ := h
  have ho := H.own
  obtain ⟨n, hnn⟩ : ∃ N, Hid (m.turns.length = N) := ⟨_, rfl⟩
  have R1 := H.r3
  rw [hnn.out] at R1 hn
  obtain ⟨ao, cap, e1, hcap, hc2⟩ := R1.shape
  rw [e1] at R1
  unfold maxLen at hc2
  have c1 := ho.cell 3
  rw [e1] at c1
  simp only [List.getElem?_toArray, List.getElem?_cons_zero, List.getElem?_cons_succ] at c1
  obtain ⟨rv, hrv⟩ : ∃ v : Int, Hid ((m.tgtV nm b : Int) = v) := ⟨_, rfl⟩
  obtain ⟨re, hre⟩ : ∃ v : Int, Hid ((m.tgtE nm b : Int) = v) := ⟨_, rfl⟩
  rw [hrv.out, hre.out]
  have hbe : (nm.toList == ([] : List UInt8)) = decide (nm = empt) := by
    have h := ba_eq nm empt
    have e : empt.toList = [] := by rw [ByteArray.toList_eq]; rfl
    rw [e] at h
    exact h
  obtain ⟨bE, hbE⟩ : ∃ x, Hid (decide (nm = empt) = x) := ⟨_, rfl⟩
  rw [hbE.out] at hbe
  go_enter Try.func38, Try.ntmps38
  go_wp2_with fail
  clear c1
  go_loopw [8] (fun iv wr => RtRel m nm b w n iv wr) (fun i _ => ((intOf i) + 1).toNat)
  case atStart => exact ⟨n, Nat.le_refl _, rfl, fun i hi q => by rw [hnn.out] at hi; omega, Below.refl _ _⟩
  case round =>
    obtain ⟨k, hk, rfl, hall, hbw⟩ := hrel
    have HB : Hid (Below w.heap.size w wr) := hbw
    have HA : Hid (∀ i (hi : i < m.turns.length), k ≤ i → condB nm b m.turns[i] = false) := hall
    have c1 := (ho.below hbw).cell 3
    rw [e1] at c1
    simp only [List.getElem?_toArray, List.getElem?_cons_zero, List.getElem?_cons_succ] at c1
    cases k with
    | zero =>
      have hnone : Hid (rv = 0 ∧ re = 72) := by
        have e : m.tgt nm b = none := revfind_none (p := condB nm b) fun i hi => HA.out i hi (Nat.zero_le _)
        unfold Hid
        rw [← hrv.out, ← hre.out]
        unfold M.tgtV M.tgtE
        rw [e]
        exact ⟨rfl, rfl⟩
      clear hall hbw
      go_wp2
      go_ret2
      exact ⟨by rw [hnone.out.1, hnone.out.2]; rfl, HB.out⟩
    | succ q =>
      have hq : q < m.turns.length := by rw [hnn.out]; omega
      rcases R1.2 with ⟨e, h0⟩ | ⟨g, cap', cur, e, _⟩
      · omega
      cases e
      have R := (R1.fr (F := fun _ => False) (Fr.of hbw) fun _ _ q => q)
      obtain ⟨x, hx0⟩ : ∃ x, m.turns[q]? = some x := ⟨_, List.getElem?_eq_getElem hq⟩
      obtain ⟨d0, d1, d2⟩ := rt_cells' R hx0
      have hx : Hid (∀ (h : q < m.turns.length), m.turns[q] = x) := fun h => by
        rw [List.getElem?_eq_getElem h] at hx0
        exact Option.some.inj hx0
      clear hx0 hq
      obtain ⟨lb, lo, no⟩ := x
      simp only at d0 d1 d2
      have hqn : q < n := by omega
      have hx2 := Own.new wr #[.string lb, .bool lo, .int .i64 (no : Int)] 91
      have y0 := hx2.cell 0
      have y1 := hx2.cell 1
      have y2 := hx2.cell 2
      simp only [List.getElem?_toArray, List.getElem?_cons_zero, List.getElem?_cons_succ] at y0 y1 y2
      clear hall hbw R
      have ek : ((q + 1 : Nat) : Int) - 1 = (q : Int) := by omega
      rw [ek]
      have hbl := ba_eq lb nm
      obtain ⟨bL, hbL⟩ : ∃ x, Hid (decide (lb = nm) = x) := ⟨_, rfl⟩
      rw [hbL.out] at hbl
      have hfound : Hid (((bE || bL) && (lo || !b)) = true → rv = (no : Int) ∧ re = 0) := by
        intro hc
        have hq9 : q < m.turns.length := by rw [hnn.out]; omega
        have e : m.tgt nm b = some m.turns[q] := revfind_some (p := condB nm b) (k := q) (by rw [hnn.out]; omega) (by rw [hx.out (by rw [hnn.out]; omega)]; unfold condB; rw [hbE.out]; simp only; rw [hbL.out]; exact hc) (fun i hi hqi => HA.out i hi (by omega))
        rw [← hrv.out, ← hre.out]
        unfold M.tgtV M.tgtE
        rw [e, hx.out (by rw [hnn.out]; omega)]
        exact ⟨rfl, rfl⟩
      have hB2 : Hid (Below w.heap.size w (wr.alloc (.cells #[.string lb, .bool lo, .int .i64 (no : Int)] 91))) := HB.out.alloc HB.out.size _
      have hstay : Hid (((bE || bL) && (lo || !b)) = false → RtRel m nm b w n (.int .i64 ((q : Int) - 1)) (wr.alloc (.cells #[.string lb, .bool lo, .int .i64 (no : Int)] 91))) := by
        intro hc
        refine ⟨q, by omega, rfl, fun i hi hqi => ?_, hB2.out⟩
        rcases Nat.lt_or_ge q i with h1 | h1
        · exact HA.out i hi (by omega)
        · obtain rfl : i = q := by omega
          rw [hx.out hi]; unfold condB; rw [hbE.out]; simp only; rw [hbL.out]; exact hc
      clear hx hbE hbL HA
      cases bE <;> cases bL <;> cases lo <;> cases b <;>
        (go_wp2_with fail
         first
           | exact ⟨hstay.out rfl, by simp [intOf]⟩
           | (go_ret2; exact ⟨by rw [(hfound.out rfl).1, (hfound.out rfl).2]; rfl, hB2.out⟩))
def ReRel (m : M) (nm : ByteArray) (w : World) (n : Nat) (iv : Value) (wr : World) : Prop :=
  ∃ k : Nat, k ≤ n ∧ iv = .int .i64 (k : Int) ∧ (∀ i (hi : i < m.turns.length), i < k → nm ≠ empt → ¬ m.turns[i].label = nm) ∧ wr = w
set_option maxRecDepth 100000 in
set_option maxHeartbeats 4000000 in
theorem rEnter {w : World} {p : Nat} {m : M} {F : Nat → Prop} (h : RfAt w p m F) (hn : m.turns.length ≤ 100000) (hN : m.next ≤ 100000) (nm : ByteArray) (b : Bool) : Calls Try.prog 36 #[.pointer (some ⟨p, 0, none⟩), .string nm, .bool b] w fun e w' => e = .returned (.tuple #[.int .i64 (m.entV nm : Int), .int .i64 (m.entE nm : Int)]) ∧ RfRet w p (m.entered nm b) F w' := by
  have hsc := h
  obtain ⟨v1, v2, v3, H, hF, hl⟩ := h
  have ho := H.own
  obtain ⟨n, hnn⟩ : ∃ N, Hid (m.turns.length = N) := ⟨_, rfl⟩
  have R1 := H.r3
  rw [hnn.out] at R1 hn
  obtain ⟨ao, cap, e1, hcap, hc2⟩ := R1.shape
  rw [e1] at R1
  unfold maxLen at hc2
  have c1 := ho.cell 3
  rw [e1] at c1
  simp only [List.getElem?_toArray, List.getElem?_cons_zero, List.getElem?_cons_succ] at c1
  obtain ⟨Nx, hNx⟩ : ∃ v : Nat, Hid (m.next = v) := ⟨_, rfl⟩
  have hbe : (nm.toList == ([] : List UInt8)) = decide (nm = empt) := by
    have h := ba_eq nm empt
    have e : empt.toList = [] := by rw [ByteArray.toList_eq]; rfl
    rw [e] at h
    exact h
  obtain ⟨bE, hbE⟩ : ∃ x, Hid (decide (nm = empt) = x) := ⟨_, rfl⟩
  rw [hbE.out] at hbe
  have HSC : Hid (RfAt w p m F) := hsc
  clear hsc
  obtain ⟨ev, hev⟩ : ∃ v : Int, Hid ((m.entV nm : Int) = v) := ⟨_, rfl⟩
  obtain ⟨ee, hee⟩ : ∃ v : Int, Hid ((m.entE nm : Int) = v) := ⟨_, rfl⟩
  rw [hev.out, hee.out]
  go_enter Try.func36, Try.ntmps36
  go_wp2_with fail
  go_loopw [8] (fun iv wr => ReRel m nm w n iv wr) (fun i _ => n - (intOf i).toNat)
  case atStart => exact ⟨0, Nat.zero_le _, rfl, fun i hi q => by omega, rfl⟩
  case round =>
    obtain ⟨k, hk, rfl, hall, rfl⟩ := hrel
    have HA : Hid (∀ i (hi : i < m.turns.length), i < k → nm ≠ empt → ¬ m.turns[i].label = nm) := hall
    clear hall
    by_cases hlt : k < n
    · have hq : k < m.turns.length := by rw [hnn.out]; omega
      rcases R1.2 with ⟨e, h0⟩ | ⟨g, cap', cur, e, _⟩
      · omega
      cases e
      obtain ⟨x, hx0⟩ : ∃ x, m.turns[k]? = some x := ⟨_, List.getElem?_eq_getElem hq⟩
      obtain ⟨d0, -, -⟩ := rt_cells' R1 hx0
      have hx : Hid (∀ (h : k < m.turns.length), m.turns[k] = x) := fun h => by
        rw [List.getElem?_eq_getElem h] at hx0
        exact Option.some.inj hx0
      clear hx0 hq
      obtain ⟨lb, lo, no⟩ := x
      simp only at d0
      have hbl := ba_eq lb nm
      obtain ⟨bL, hbL⟩ : ∃ x, Hid (decide (lb = nm) = x) := ⟨_, rfl⟩
      rw [hbL.out] at hbl
      have hfound : Hid (bE = false → bL = true → ev = 0 ∧ ee = 70 ∧ m.entered nm b = m) := by
        intro q1 q2
        have hne : nm ≠ empt := by rw [← hbE.out] at q1; simpa using q1
        have hlb : lb = nm := by rw [← hbL.out] at q2; simpa using q2
        have hh : hasT nm m.turns = true := List.any_eq_true.2 ⟨m.turns[k]'(by rw [hnn.out]; exact hlt), List.getElem_mem _, by rw [hx.out (by rw [hnn.out]; exact hlt)]; simpa using hlb⟩
        have hE : m.entE nm = 70 := by unfold M.entE; rw [if_pos ⟨hne, hh⟩]
        rw [← hev.out, ← hee.out]
        unfold M.entV M.entered
        rw [hE]
        exact ⟨rfl, rfl, rfl⟩
      have hstay : Hid ((bE = true ∨ bL = false) → ReRel m nm wr n (.int .i64 ((k : Int) + 1)) wr) := by
        intro hc
        refine ⟨k + 1, by omega, by simp, fun i hi hik hne => ?_, rfl⟩
        rcases Nat.lt_or_ge i k with h1 | h1
        · exact HA.out i hi h1 hne
        · obtain rfl : i = k := by omega
          rw [hx.out hi]
          rcases hc with hc | hc
          · rw [← hbE.out] at hc
            exact absurd (by simpa using hc) hne
          · rw [← hbL.out] at hc
            simpa using hc
      clear hx hbE hbL HA
      cases bE <;> cases bL
      · go_wp2_with fail
        exact ⟨hstay.out (.inr rfl), by simp [intOf]; omega⟩
      · have hfd : Hid (ev = 0 ∧ ee = 70 ∧ m.entered nm b = m) := hfound.out rfl rfl
        clear hfound
        go_wp2_with fail
        go_ret2
        rw [hfd.out.2.2]
        exact ⟨by rw [hfd.out.1, hfd.out.2.1]; rfl, RfRet.same HSC.out (Below.refl _ _)⟩
      · go_wp2_with fail
        exact ⟨hstay.out (.inl rfl), by simp [intOf]; omega⟩
      · go_wp2_with fail
        exact ⟨hstay.out (.inl rfl), by simp [intOf]; omega⟩
    · have hkl : k = n := by omega
      subst hkl
      have hE : m.entE nm = 0 := by
        unfold M.entE
        rw [if_neg]
        rintro ⟨hne, hh⟩
        obtain ⟨t, ht, q⟩ := List.any_eq_true.1 hh
        obtain ⟨i, hi, rfl⟩ := List.mem_iff_getElem.1 ht
        exact HA.out i hi (by rw [hnn.out] at hi; exact hi) hne (by simpa using q)
      have hD : Hid (ev = (Nx : Int) ∧ ee = 0 ∧ m.entered nm b = { m with turns := m.turns ++ [⟨nm, b, m.next⟩], next := m.next + 1 }) := by
        unfold Hid
        rw [← hev.out, ← hee.out]
        unfold M.entV M.entered
        rw [hE, hNx.out]
        exact ⟨rfl, rfl, rfl⟩
      have hNx2 : Nx ≤ 100000 := by rw [← hNx.out]; exact hN
      have ho' := ho
      rw [hNx.out, e1] at ho'
      clear hE HA
      have oA := (ho'.alloc (.cells #[.string nm, .bool b, .int .i64 (Nx : Int)] 91)).drew
      have oD := ho'.drew
      have bA := (Own.new wr #[.string nm, .bool b, .int .i64 (Nx : Int)] 91).drew
      have RA := (R1.alloc (.cells #[.string nm, .bool b, .int .i64 (Nx : Int)] 91)).drew
      obtain ⟨-, -, -, f3, f4, ff⟩ := own5 oD
      obtain ⟨-, -, -, g3, g4, gf⟩ := own5 oA
      have q3 : (Value.slice ao k cap).ownBlock ≠ some p := RA.ne oA (by decide)
      have hone : ∀ u ∈ [Value.string nm, .bool b, .int .i64 (Nx : Int)], u.oneCell' = true := by simp [Value.oneCell']
      go_wp2_with fail
      go_region_law (refine step_app1 okRT (by rfl) (.tmp 36) (.tmp 44) (by rfl) _ k m.rowRT (by rfl) RA wr.heap.size [.string nm, .bool b, .int .i64 (Nx : Int)] (by rfl) bA rfl hone (by omega) ?_; intro ao2 cap2 wz hrz gz hnz; have oz := oA.grown gz (fun e => q3 e.symm); have cz := oz.cell 3; have fz := oz.froz 3; simp only [List.getElem?_toArray, List.getElem?_cons_zero, List.getElem?_cons_succ] at cz)
      all_goals
        have o8 : Own (wz.setCell ⟨p, 3, none⟩ (.slice ao2 (k + 1) cap2)) p #[.int .i64 (m.out.length + 1 : Int), v1, v2, .slice ao2 (k + 1) cap2, .int .i64 (Nx : Int)] 64 := by simpa using oz.set 3 (.slice ao2 (k + 1) cap2)
        have o9 : Own ((wz.setCell ⟨p, 3, none⟩ (.slice ao2 (k + 1) cap2)).setCell ⟨p, 4, none⟩ (.int .i64 ((Nx : Int) + 1))) p #[.int .i64 (m.out.length + 1 : Int), v1, v2, .slice ao2 (k + 1) cap2, .int .i64 ((Nx : Int) + 1)] 64 := by simpa using o8.set 4 (.int .i64 ((Nx : Int) + 1))
        obtain ⟨-, -, -, -, x4, xf⟩ := own5 o8
        obtain ⟨-, -, -, -, y4, yf⟩ := own5 o9
        go_wp2_with fail
        go_ret2
        refine ⟨by rw [hD.out.1, hD.out.2.1]; simp, ?_⟩
        rw [hD.out.2.2]
        have RA1 := (H.r1.alloc (.cells #[.string nm, .bool b, .int .i64 (Nx : Int)] 91)).drew
        have RA2 := (H.r2.alloc (.cells #[.string nm, .bool b, .int .i64 (Nx : Int)] 91)).drew
        have n1 := RA1.ne2 RA (by decide)
        have n2 := RA2.ne2 RA (by decide)
        have z1 := RA1.grown gz fun k e q => n1 k e q.symm
        have z2 := RA2.grown gz fun k e q => n2 k e q.symm
        have s1 := z1.set (z1.ne oz (by decide)) 3 (.slice ao2 (k + 1) cap2)
        have s2 := z2.set (z2.ne oz (by decide)) 3 (.slice ao2 (k + 1) cap2)
        have s3 := hrz.set (hrz.ne oz (by decide)) 3 (.slice ao2 (k + 1) cap2)
        have t1 := s1.set (s1.ne o8 (by decide)) 4 (.int .i64 ((Nx : Int) + 1))
        have t2 := s2.set (s2.ne o8 (by decide)) 4 (.int .i64 ((Nx : Int) + 1))
        have t3 := s3.set (s3.ne o8 (by decide)) 4 (.int .i64 ((Nx : Int) + 1))
        have hF2 : F p := hF p (.inl rfl)
        refine RfRet.mk' hF (u1 := v1) (u2 := v2) (u3 := .slice ao2 (k + 1) cap2) ⟨?_, t1, t2, ?_⟩ ?_ ?_
        · show Own _ p #[.int .i64 (m.out.length + 1 : Int), v1, v2, .slice ao2 (k + 1) cap2, .int .i64 ((m.next + 1 : Nat) : Int)] 64
          rw [hNx.out]; exact o9
        · show Rw _ 91 3 _ (m.turns ++ [_]).length (List.flatMap cRT (m.turns ++ [_]))
          rw [List.length_append, hnn.out, List.flatMap_append, hNx.out]
          exact t3
        · rintro b0 (q | q | q | q)
          · exact .inl (.inl q)
          · exact .inl (.inr (.inl q))
          · exact .inl (.inr (.inr (.inl q)))
          · rcases hnz with j | j
            · exact .inl (.inr (.inr (.inr (by rw [e1, ← j]; exact q))))
            · right
              rw [j] at q
              have := Option.some.inj q
              have h9 : (wr.alloc (.cells #[.string nm, .bool b, .int .i64 (Nx : Int)] 91)).drew.heap.size = wr.heap.size + 1 := World.size_alloc _ _
              rw [h9] at this
              omega
        · exact (((((Fr.refl F wr).alloc _).drew).grown gz fun k _ e => hF k (.inr (.inr (.inr (by rw [e1]; exact e))))).set (.inr hF2) 3 _).set (.inr hF2) 4 _
end Go.Proofs.Ytnnajgbkpilaaaa
