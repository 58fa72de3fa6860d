/-
  CONTRACTS of the document's own heap: Fill, Drop, Push.
-/
import Derived.Test.YtcohgbelcbniaaaRfD
namespace Go.Proofs.Ytcohgbelcbniaaa
open Go.RowKit
set_option linter.unusedVariables false

def FL (w : World) (x : Int) (n : Nat) (lv iv : Value) (wr : World) : Prop := ∃ (k : Nat) (ao : Option Addr) (cap : Nat), k ≤ n ∧ iv = .int .i64 (k : Int) ∧ lv = .slice ao k cap ∧ cap ≤ maxLen ∧ Rw wr 24 1 (.slice ao k cap) k (wordV (List.replicate k x)) ∧ (∀ g, (Value.slice ao k cap).ownBlock = some g → w.heap.size ≤ g) ∧ Below w.heap.size w wr
theorem rep_snoc (k : Nat) (x : Int) : wordV (List.replicate k x) ++ [.int .u64 x] = wordV (List.replicate (k + 1) x) := by
  rw [← wordV_snoc, List.replicate_succ']
set_option maxRecDepth 100000 in
set_option maxHeartbeats 2000000 in
theorem fillR {w : World} {q : Nat} {m : M} {F : Nat → Prop} (h : RAt w q m F) (hi : Inv m) (hn : m.ths.length ≤ 1000000) (t n x : Int) (hn1 : -9223372036854775808 ≤ n) (hn2 : n < 9223372036854775808) :
    Calls Try.prog 33 #[ptr q, .int .i64 t, .int .i64 n, .int .u64 x] w fun e w' => e = .returned (.tuple #[.int .u64 (m.fillR n), .int .i64 (m.fillT n)]) ∧ RRet w q (m.filled t n x) F w' := by
  unfold M.fillR M.fillT M.filled
  have hsc := h
  by_cases hout : n < 0 ∨ 65536 < n
  · rw [if_pos hout, if_pos hout, if_pos hout]
    have HR : Hid (RRet w q m F w) := RRet.same h (Below.refl _ _)
    clear h hsc hi
    by_cases q1 : n < 0
    · clear hout
      go_enter Try.func33, Try.ntmps33
      go_wp2_with fail
      go_ret2
      exact ⟨rfl, HR.out⟩
    · have q2 : 65536 < n := by omega
      clear hout
      go_enter Try.func33, Try.ntmps33
      go_wp2_with fail
      go_ret2
      exact ⟨rfl, HR.out⟩
  rw [if_neg hout, if_neg hout, if_neg hout]
  obtain ⟨k, rfl⟩ : ∃ k : Nat, n = (k : Int) := ⟨n.toNat, by omega⟩
  have hk : k ≤ 65536 := by omega
  have ek : ((k : Int)).toNat = k := by omega
  rw [ek]
  clear ek hout hn1 hn2
  obtain ⟨vt, vs, H, hF, hl0⟩ := h
  have h1 := hi.used
  have h2 := hi.limit
  have ho := H.own
  obtain ⟨L, hL⟩ : ∃ L, Hid (m.limit = L) := ⟨_, rfl⟩
  obtain ⟨U, hU⟩ : ∃ U, Hid (m.used = U) := ⟨_, rfl⟩
  rw [hL.out, hU.out] at ho h1
  rw [hL.out] at h2
  obtain ⟨c0, c1, c2, hf⟩ := own3 ho
  obtain ⟨ao0, cap0, e9, -⟩ := H.row.shape
  subst e9
  by_cases hp : U + (1 + k) ≤ L
  · have hd : decide ((L : Int) - U < 1 + (k : Int)) = false := by simp; omega
    obtain ⟨M', hM'⟩ : ∃ M', Hid (m.made (tFix t k x) (1 + k) = M') := ⟨_, rfl⟩
    have HM : Hid (∀ w1 ao cap, Rw w1 24 1 (.slice ao k cap) k (wordV (List.replicate k x)) → (∀ g, (Value.slice ao k cap).ownBlock = some g → w.heap.size ≤ g) → Below w.heap.size w w1 → Calls Try.prog 50 #[ptr q, .agg #[.int .i64 3, .int .i64 t, .string ⟨#[]⟩, .slice ao k cap], .int .i64 (1 + (k : Int))] w1 fun e w' => e = .returned (.tuple #[.int .u64 (m.madeR (1 + k)), .int .i64 (m.madeT (1 + k))]) ∧ RRet w q M' F w') := by
      intro w1 ao cap k1 k2 k3
      have hl : (tFix t k x).words.length = k := by simp [tFix]
      have hm := makeR (hsc.below k3) hi hn (tFix t k x) ao cap (by rw [hl]; exact k1) (fun g hg y => by rw [hl] at hg; have := k2 g hg; have := hsc.bd g y; omega) (1 + k) (by omega)
      have ec : ((1 + k : Nat) : Int) = 1 + (k : Int) := by omega
      rw [ec, hM'.out, hl] at hm
      refine Calls.mono (show Calls Try.prog 50 #[ptr q, .agg #[.int .i64 3, .int .i64 t, .string ⟨#[]⟩, .slice ao k cap], .int .i64 (1 + (k : Int))] w1 _ from hm) ?_
      rintro e w' ⟨rfl, hr⟩
      exact ⟨rfl, rret_of hr k3 k2⟩
    rw [hM'.out]
    generalize m.madeR (1 + k) = R at *
    generalize m.madeT (1 + k) = T at *
    have HB0 : Hid (∀ nq, Below w.heap.size w (w.drewN nq)) := fun nq => below_drewN w nq
    clear H hF hl0 hsc hi hM'
    go_enter Try.func33, Try.ntmps33
    go_wp2_with fail
    go_quiet (fail)
    go_wp2_with fail
    clear c0 c1 c2 hf hd
    go_loopw [10, 11] (fun lv iv wr => FL w x k lv iv wr) (fun _ i _ => k - (intOf i).toNat)
    case atStart => exact ⟨0, none, 0, Nat.zero_le _, rfl, rfl, Nat.zero_le _, World.ownsRow_nil _ 0 24 1, fun g hg => (nil_blk g hg).elim, HB0.out nq⟩
    case round =>
      obtain ⟨j, ao, cap, hj, rfl, rfl, hcm, hr, hnew, hB⟩ := hrel
      unfold maxLen at hcm
      by_cases hlt : j < k
      · have hr2 := hr.alloc (.cells #[.int .u64 x] 24)
        have hb2 := Own.new wr #[.int .u64 x] 24
        have HN : Hid (∀ ao2 cap2 wz, Rw wz 24 1 (.slice ao2 (j + 1) cap2) (j + 1) (wordV (List.replicate j x) ++ [.int .u64 x]) → (wr.alloc (.cells #[.int .u64 x] 24)).grownBy wz (Value.slice ao j cap).ownBlock → ((Value.slice ao2 (j + 1) cap2).ownBlock = (Value.slice ao j cap).ownBlock ∨ (Value.slice ao2 (j + 1) cap2).ownBlock = some (wr.alloc (.cells #[.int .u64 x] 24)).heap.size) → FL w x k (.slice ao2 (j + 1) cap2) (.int .i64 ((j : Int) + 1)) wz) := by
          intro ao2 cap2 wz z1 z2 z3
          have hs := hB.size
          rw [rep_snoc] at z1
          obtain ⟨ao3, cap3, e3, y1, y2⟩ := z1.shape
          cases e3
          refine ⟨j + 1, ao2, cap2, hlt, by simp, rfl, y2, z1, fun g hg => ?_, Fr.below (((Fr.of hB).alloc _).grown z2 fun i hi e => by have := hnew i e; omega)⟩
          rcases z3 with y | y
          · exact hnew g (by rw [← y]; exact hg)
          · rw [y, World.size_alloc] at hg; cases hg; omega
        generalize wordV (List.replicate j x) = ws at *
        clear hr hnew hB
        go_wp2_with (refine wpList_app1 okU (by rfl) (.tmp 35) (.tmp 37) (by rfl) _ j ws (by rfl) hr2 wr.heap.size [.int .u64 x] (by rfl) hb2 rfl (by simp [Value.oneCell']) (by omega) ?_; intro ao2 cap2 wz z1 z2 z3; have HQ : Hid _ := HN.out ao2 cap2 wz z1 z2 z3; clear z1 z2 z3)
        go_roundw
        case rel => exact HQ.out
        case measure => simp [intOf]; omega
      · have hjk : j = k := by omega
        subst hjk
        have hm := HM.out wr ao cap hr hnew hB
        clear hr hnew hB
        go_wp2_with (go_at_call 50; refine hm.mono ?_; rintro e w2 ⟨rfl, hq⟩; have HQ : Hid _ := hq; clear hq)
        go_ret2
        exact ⟨rfl, HQ.out⟩
  · have hd : decide ((L : Int) - U < 1 + (k : Int)) = true := by simp; omega
    obtain ⟨e1, e2, e3, e4, e5⟩ := made_not (tFix t k x) (show ¬ m.used + (1 + k) ≤ m.limit by rw [hL.out, hU.out]; exact hp)
    rw [e1, e2, e3]
    have HR : Hid (∀ nq, RRet w q m F (w.drewN nq)) := fun nq => RRet.same hsc (below_drewN w nq)
    clear H hF hl0 hsc hi e1 e2 e3 e4 e5
    go_enter Try.func33, Try.ntmps33
    go_wp2_with fail
    go_quiet (fail)
    go_wp2_with fail
    go_ret2
    exact ⟨rfl, HR.out _⟩
end Go.Proofs.Ytcohgbelcbniaaa
