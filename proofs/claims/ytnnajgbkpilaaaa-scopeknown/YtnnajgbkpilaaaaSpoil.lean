/-
  CONTRACT of the kit's SpoilInts: what a row of numbers holds is spoilt, and nothing else.
-/
import Derived.Test.YtnnajgbkpilaaaaRfE
import Derived.Test.YtnnajgbkpilaaaaInts
namespace Go.Proofs.Ytnnajgbkpilaaaa
open Go.RowKit
set_option linter.unusedVariables false
set_option linter.unusedSimpArgs false
def Sp1 (w : World) (v : Value) (n : Nat) (iv : Value) (wr : World) : Prop := ∃ k : Nat, k ≤ n ∧ iv = .int .i64 (k : Int) ∧ ∃ ys, Rw wr 3 1 v n ys ∧ Fr (fun b => v.ownBlock = some b) w wr
def Sp2 (w : World) (v : Value) (n : Nat) (mv iv : Value) (wr : World) : Prop := ∃ j : Nat, j ≤ 8 ∧ iv = .int .i64 (j : Int) ∧ ∃ ao cap zs, mv = .slice ao (n + j) cap ∧ Rw wr 3 1 (.slice ao (n + j) cap) (n + j) zs ∧ (∀ b, (Value.slice ao (n + j) cap).ownBlock = some b → v.ownBlock = some b ∨ w.heap.size ≤ b) ∧ Fr (fun b => v.ownBlock = some b) w wr
set_option maxRecDepth 100000 in
set_option maxHeartbeats 2000000 in
theorem spoilI (w : World) (ao : Option Addr) (n cap : Nat) (xs : List Value) (hr : Rw w 3 1 (.slice ao n cap) n xs) (hn : n ≤ 1000) : Calls Try.prog 39 #[.slice ao n cap] w fun e w' => e = .returned (.tuple #[]) ∧ Fr (fun b => (Value.slice ao n cap).ownBlock = some b) w w' := by
  obtain ⟨v, hv⟩ : ∃ v, Hid (Value.slice ao n cap = v) := ⟨_, rfl⟩
  have hr' : Rw w 3 1 v n xs := by rw [← hv.out]; exact hr
  have hsz : n ≤ cap ∧ cap ≤ 9223372036854775807 := by
    obtain ⟨a', c', e, q1, q2⟩ := hr.shape
    cases e
    unfold maxLen at q2
    omega
  have hgoal : Calls Try.prog 39 #[.slice ao n cap] w fun e w' => e = .returned (.tuple #[]) ∧ Fr (fun b => v.ownBlock = some b) w w' := by
    go_enter Try.func39, Try.ntmps39
    go_wp2_with fail
    go_loopw [2] (fun iv wr => Sp1 w v n iv wr) (fun i _ => n - (intOf i).toNat)
    case atStart => exact ⟨0, Nat.zero_le _, rfl, xs, hr', Fr.refl _ _⟩
    case round =>
      obtain ⟨k, hk, rfl, ys, R, hfr⟩ := hrel
      by_cases hlt : k < n
      · obtain ⟨g, cap', cur, e, hg, q1, q2, q3, q4⟩ := R.block (by omega)
        have e2 : Value.slice ao n cap = .slice (some ⟨g, 0, none⟩) n cap' := hv.out.trans e
        cases e2
        have hf := hg.froz k
        obtain ⟨u, hu⟩ : ∃ u, wr.cell? ⟨g, k, none⟩ = some u := by
          rw [hg.cell]
          exact ⟨_, Array.getElem?_eq_getElem (by omega)⟩
        have o2 := hg.set k (.int .i64 (-777))
        have hst : Hid (Sp1 w v n (.int .i64 ((k : Int) + 1)) (wr.setCell ⟨g, k, none⟩ (.int .i64 (-777)))) := by
          refine ⟨k + 1, by omega, by simp, (cur.setIfInBounds k (.int .i64 (-777))).toList.take (n * 1), ⟨?_, .inr ⟨g, cap, cur.setIfInBounds k (.int .i64 (-777)), e, Nat.zero_le _, o2, q1, q2, by rw [Array.size_setIfInBounds]; exact q3, rfl⟩⟩, hfr.set (.inr (by rw [e]; rfl)) k _⟩
          rw [List.length_take, Array.length_toList, Array.size_setIfInBounds]
          omega
        clear R hfr o2 hg
        go_wp2_with fail
        exact ⟨hst.out, by simp [intOf]; omega⟩
      · have hkn : k = n := by omega
        subst hkn
        have HF : Hid (Fr (fun b => v.ownBlock = some b) w wr) := hfr
        clear hfr
        go_wp2_with fail
        go_loopw [3, 4] (fun mv iv wq => Sp2 w v k mv iv wq) (fun _ i _ => 8 - (intOf i).toNat)
        case atStart => exact ⟨0, by omega, rfl, ao, cap, ys, rfl, by rw [Nat.add_zero, hv.out]; exact R, fun b hb => .inl (by rw [← hv.out]; exact hb), HF.out⟩
        case round =>
          clear hsz R
          obtain ⟨j, hj, rfl, ao2, cap2, zs, rfl, R2, hnw, hfr⟩ := hrel
          have HF2 : Hid (Fr (fun b => v.ownBlock = some b) w wr) := hfr
          have HW2 : Hid (∀ b, (Value.slice ao2 (k + j) cap2).ownBlock = some b → v.ownBlock = some b ∨ w.heap.size ≤ b) := hnw
          clear hfr hnw
          by_cases hj8 : j < 8
          · have bA := Own.new wr #[.int .i64 (-778)] 3
            have RA := R2.alloc (.cells #[.int .i64 (-778)] 3)
            have hone : ∀ u ∈ [Value.int .i64 (-778)], u.oneCell' = true := by simp [Value.oneCell']
            go_wp2_with (refine wpList_app1 okI (by rfl) (.tmp 19) (.tmp 20) (by rfl) _ (k + j) zs (by rfl) RA wr.heap.size [.int .i64 (-778)] (by rfl) bA rfl hone (by omega) ?_; intro ao5 cap5 w5 j1 j2 j3)
            refine ⟨⟨j + 1, by omega, by simp, ao5, cap5, _, rfl, j1, ?_, (HF2.out.alloc _).grown j2 fun b hb e => ?_⟩, by simp [intOf]; omega⟩
            · intro b hb
              have hs := HF2.out.size
              rcases j3 with q | q
              · exact HW2.out b (q.symm.trans hb)
              · right
                have hb' : (Value.slice ao5 (k + j + 1) cap5).ownBlock = some b := hb
                rw [q] at hb'
                have := Option.some.inj hb'
                rw [World.size_alloc] at this
                omega
            · rcases HW2.out b e with q | q
              · exact q
              · omega
          · go_wp2_with fail
            go_end0
            exact ⟨rfl, HF2.out⟩
  refine hgoal.mono ?_
  rintro e w' ⟨h1, h2⟩
  refine ⟨h1, ?_⟩
  rw [hv.out]
  exact h2
end Go.Proofs.Ytnnajgbkpilaaaa
