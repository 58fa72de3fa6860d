/-
  CONTRACTS of the document's own Find, Enter, Target.
-/
import Derived.Test.YtnnajgbkpilaaaaRfA
import Derived.Test.YtnnajgbkpilaaaaFind
namespace Go.Proofs.Ytnnajgbkpilaaaa
open Go.RowKit
set_option linter.unusedVariables false

theorem find_rls (m : M) (nm : ByteArray) : m.find nm = (m.rls.reverse.find? fun x => decide (x.1.name = nm)).map (·.1) := by
  unfold M.find lastN
  rw [← m.rls_map, ← List.map_reverse, List.find?_map]
  rfl
def RfRel (m : M) (nm : ByteArray) (w : World) (n : Nat) (iv : Value) (wr : World) : Prop :=
  ∃ k : Nat, k ≤ n ∧ iv = .int .i64 ((k : Int) - 1) ∧ (∀ i (hi : i < m.rls.length), k ≤ i → ¬ m.rls[i].1.name = nm) ∧ Below w.heap.size w wr
set_option maxRecDepth 100000 in
set_option maxHeartbeats 2000000 in
theorem rFind {w : World} {p : Nat} {m : M} {F : Nat → Prop} (h : RfAt w p m F) (hfl : m.flat.length ≤ 256) (nm : ByteArray) : Calls Try.prog 35 #[.pointer (some ⟨p, 0, none⟩), .string nm] w fun e w' => e = .returned (m.findV nm) ∧ Below w.heap.size w w' := by
  obtain ⟨v1, v2, v3, H, hF, hl⟩ := h
  have ho := H.own
  obtain ⟨n, hn⟩ : ∃ N, Hid (m.flat.length = N) := ⟨_, rfl⟩
  have hrl : Hid (m.rls.length = n) := by unfold Hid; rw [m.rls_length, hn.out]
  have R1 := H.r1
  rw [hn.out] at R1 hfl
  obtain ⟨ao, cap, e1, hcap, hc2⟩ := R1.shape
  rw [e1] at R1
  unfold maxLen at hc2
  have c1 := ho.cell 1
  rw [e1] at c1
  simp only [List.getElem?_toArray, List.getElem?_cons_zero, List.getElem?_cons_succ] at c1
  obtain ⟨FV, hFV⟩ : ∃ v, Hid (m.findV nm = v) := ⟨_, rfl⟩
  rw [hFV.out]
  go_enter Try.func35, Try.ntmps35
  go_wp2_with fail
  clear c1
  go_loopw [7] (fun iv wr => RfRel m nm w n iv wr) (fun i _ => ((intOf i) + 1).toNat)
  case atStart => exact ⟨n, Nat.le_refl _, rfl, fun i hi q => by rw [hrl.out] at hi; omega, Below.refl _ _⟩
  case round =>
    obtain ⟨k, hk, rfl, hall, hbw⟩ := hrel
    have HB : Hid (Below w.heap.size w wr) := hbw
    have HA : Hid (∀ i (hi : i < m.rls.length), k ≤ i → ¬ m.rls[i].1.name = nm) := hall
    have c1 := (ho.below hbw).cell 1
    rw [e1] at c1
    simp only [List.getElem?_toArray, List.getElem?_cons_zero, List.getElem?_cons_succ] at c1
    cases k with
    | zero =>
      have hnone : Hid (FV = .tuple #[.int .i64 0, .int .i64 0, .bool false]) := by
        unfold Hid
        rw [← hFV.out]
        unfold M.findV
        rw [find_rls, revfind_none fun i hi => by simpa using HA.out i hi (Nat.zero_le _)]
        rfl
      clear hall hbw
      go_wp2
      go_ret3
      exact ⟨by rw [hnone.out]; rfl, HB.out⟩
    | succ q =>
      have hq : q < m.rls.length := by rw [hrl.out]; omega
      rcases R1.2 with ⟨e, h0⟩ | ⟨g, cap', cur, e, _⟩
      · omega
      cases e
      have R := (R1.fr (F := fun _ => False) (Fr.of hbw) fun _ _ q => q)
      obtain ⟨x, hx0⟩ : ∃ x, m.rls[q]? = some x := ⟨_, List.getElem?_eq_getElem hq⟩
      obtain ⟨d0, d1, d2, d3⟩ := rl_cells' R hx0
      have hx : Hid (∀ (h : q < m.rls.length), m.rls[q] = x) := fun h => by
        rw [List.getElem?_eq_getElem h] at hx0
        exact Option.some.inj hx0
      clear hx0 hq
      obtain ⟨⟨xn, xs, xt⟩, xb⟩ := x
      simp only at d0 d1 d2 d3
      have hqn : q < n := by omega
      clear hall hbw R
      have ek : ((q + 1 : Nat) : Int) - 1 = (q : Int) := by omega
      rw [ek]
      by_cases hnm : xn = nm
      · have hsome : Hid (FV = .tuple #[.int .i64 (xs : Int), .int .i64 xt, .bool true]) := by
          unfold Hid
          rw [← hFV.out]
          unfold M.findV
          rw [find_rls, revfind_some (k := q) (by rw [hrl.out]; omega) (by rw [hx.out (by rw [hrl.out]; omega)]; simpa using hnm) (fun i hi hqi => by simpa using HA.out i hi (by omega)), hx.out (by rw [hrl.out]; omega)]
          rfl
        subst hnm
        go_wp2_with fail
        go_quiet (fail)
        go_wp2_with fail
        go_ret3
        exact ⟨by rw [hsome.out]; rfl, HB.out.trans ⟨rfl, rfl, rfl, Nat.le_refl _, fun _ _ => rfl⟩⟩
      · have HN : Hid (¬ xn = nm) := hnm
        have hq2 : (xn.toList == nm.toList) = false := by rw [ba_eq]; simpa using hnm
        clear hnm
        go_wp2_with fail
        refine ⟨⟨q, by omega, by simp, fun i hi hqi => ?_, HB.out⟩, by simp [intOf]⟩
        rcases Nat.lt_or_ge q i with h1 | h1
        · exact HA.out i hi (by omega)
        · obtain rfl : i = q := by omega
          rw [hx.out hi]; exact HN.out
end Go.Proofs.Ytnnajgbkpilaaaa
