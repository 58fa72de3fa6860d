/-
  slices.Grow of nothing, slices.Concat of rows of bytes.
-/
import Derived.Test.YtghkanagiobggaaLb
import Derived.Lib.AppendZeros
import Derived.Laws.AppendOwn
namespace Go.Proofs.Ytghkanagiobggaa
open Go.RowKit Go.Lib
set_option linter.unusedVariables false

theorem wpList_appR {t t' : TypeId} {W W' : World} {ops : Array Oper} {rest : List Oper} {o : Oper} {a : Act} {Q : Exit → Act → World → Prop} (hgd : o.guard = none) (s x : Operand)
    (ho : o.op = .call { callee := .builtin .append, args := #[s, x], argTypes := #[t, t'] }) (v u r : Value) (hs : a.eval s = v) (hx : a.eval x = u) (hrun : (Builtin.append_ #[t, t'] o.type #[v, u]).run Try.prog W = .ok r W')
    (h : wpList Try.prog ops Q rest (a.put o.dst r) W') : wpList Try.prog ops Q (o :: rest) a W := by
  refine wpList_plain hgd fun K hK => ?_
  unfold Oper.wp execOp
  simp only [ho, resolve, invoke, builtin, Sem.run_bind, Sem.run_pure, Result.andThen_ok, List.map_toArray, List.map_cons, List.map_nil, hs, hx, hrun]
  exact hK _ _ h
theorem zeroCells_size (z : Array Value) (n : Nat) : (Builtin.zeroCells z n).size = n * z.size := by simp [Builtin.zeroCells]
set_option maxHeartbeats 2000000 in
set_option maxRecDepth 100000 in
theorem grow_nil (n : Nat) (h0 : 0 < n) (hn : n ≤ 1000000000) (w : World) :
    Calls Try.prog 32 #[.slice none 0 0, .int .i64 (n : Int)] w fun e w' => ∃ g c, e = .returned (.slice (some ⟨g, 0, none⟩) 0 c) ∧ Rw w' 5 1 (.slice (some ⟨g, 0, none⟩) 0 c) 0 [] ∧ w.heap.size ≤ g ∧ Below w.heap.size w w' := by
  obtain ⟨i8, hi, hz0, hz1, hz2⟩ := info_parts info8
  have hrz : ∀ (ty : TypeId) (W : World), (Builtin.append_ #[37, 3] ty #[.slice none 0 0, .int .i64 (n : Int)]).run Try.prog W = .ok (.slice (some ⟨W.heap.size, 0, none⟩) n (grownCap W n 0 5)) (W.drew.alloc (.cells (Builtin.zeroCells (Value.int .u8 0).cells n ++ Builtin.zeroCells (Value.int .u8 0).cells (grownCap W n 0 5 - n)) 5)) :=
    fun ty W => run_append_nil_zeros (P := Try.prog) W 37 3 ty 5 i8 (.int .u8 0) .i64 .i64 Try.underlying37 Try.underlying3 hi hz0 n h0 (by rw [hz1]; omega) (by omega) (by rw [hz2]; omega)
  obtain ⟨C, W1, hrun, RES, hb1, hC1⟩ : ∃ (C : Nat) (W1 : World), (∀ ty : TypeId, (Builtin.append_ #[37, 3] ty #[.slice none 0 0, .int .i64 (n : Int)]).run Try.prog w = .ok (.slice (some ⟨w.heap.size, 0, none⟩) n C) W1) ∧ Rw W1 5 1 (.slice (some ⟨w.heap.size, 0, none⟩) 0 C) 0 [] ∧ Below w.heap.size w W1 ∧ n ≤ C := by
    refine ⟨_, _, fun ty => hrz ty w, ?_, ?_, grownCap_ge w n 0 5⟩
    · have hg1 := grownCap_ge w n 0 5
      have hg2 := grownCap_le_maxLen w n 0 5 (by unfold maxLen; omega)
      refine ⟨rfl, .inr ⟨w.heap.size, _, _, rfl, Nat.zero_le _, heap_alloc_new w.drew _, Nat.zero_le _, hg2, ?_, rfl⟩⟩
      rw [Array.size_append, zeroCells_size, zeroCells_size]
      show n * 1 + (grownCap w n 0 5 - n) * 1 = grownCap w n 0 5 * 1
      omega
    · have h := new_below w.drew (.cells (Builtin.zeroCells (Value.int .u8 0).cells n ++ Builtin.zeroCells (Value.int .u8 0).cells (grownCap w n 0 5 - n)) 5)
      exact ⟨h.os, h.tape, h.output, h.size, h.block⟩
  have hni : (0 : Int) < (n : Int) := by omega
  have hnn : ¬ (n : Int) < 0 := by omega
  have hni2 : (n : Int) ≤ 1000000000 := by omega
  have hC0 : ¬ C = 0 := by omega
  have HR : Hid (Rw W1 5 1 (.slice (some ⟨w.heap.size, 0, none⟩) 0 C) 0 [] ∧ w.heap.size ≤ w.heap.size ∧ Below w.heap.size w W1) := ⟨RES, Nat.le_refl _, hb1⟩
  clear hi hz0 hz1 hz2 hrz RES hb1 hC1 h0
  go_enter Try.func32, Try.ntmps32
  go_wp2_with (refine wpList_appR (by rfl) (.tmp 20) (.tmp 21) (by rfl) _ _ _ (by rfl) (by rfl) (hrun _) ?_)
  go_ret
  exact ⟨_, C, rfl, HR.out⟩
/-- The parts of a Concat. -/
structure PtAt (w : World) (v : Value) (ys : List Nat) : Prop where
  ex : ∃ a c, v = .slice a ys.length c ∧ Lies w a ys ∧ (a = none → c = 0)
theorem PtAt.below {w w' : World} {v : Value} {ys : List Nat} (h : PtAt w v ys) (hb : Below w.heap.size w w') : PtAt w' v ys := by
  obtain ⟨a, c, h1, h2, h3⟩ := h.ex
  exact ⟨a, c, h1, h2.below hb, h3⟩
abbrev Pt := Value × List Nat
def zPt : Pt := (.slice none 0 0, [])
def catN (l : List Pt) (k : Nat) : List Nat := ((l.take k).map Prod.snd).flatten
theorem catN_succ (l : List Pt) (k : Nat) (h : k < l.length) : catN l (k + 1) = catN l k ++ (l.getD k zPt).2 := by
  unfold catN
  rw [List.take_succ_eq_append_getElem h, List.map_append, List.flatten_append]
  simp [List.getD, h]
theorem catN_le (l : List Pt) (k : Nat) : (catN l k).length ≤ (catN l l.length).length := by
  have h : catN l l.length = catN l k ++ ((l.drop k).map Prod.snd).flatten := by
    unfold catN
    rw [List.take_length, ← List.flatten_append, ← List.map_append, List.take_append_drop]
  rw [h, List.length_append]
  omega
set_option maxHeartbeats 4000000 in
set_option maxRecDepth 100000 in
theorem concat_as {w : World} {gS : Nat} (l : List Pt) (n : Nat) (hn : n = l.length) (hn1 : n ≤ 100) (o : Own w gS (l.map Prod.fst).toArray 37) (hp : ∀ y ∈ l, PtAt w y.1 y.2) (T : Nat) (hT : T = (catN l l.length).length) (hT0 : 0 < T) (hT1 : T ≤ 10000000) :
    Calls Try.prog 22 #[.slice (some ⟨gS, 0, none⟩) n n] w fun e w' => ∃ a c, e = .returned (.slice a T c) ∧ Rw w' 5 1 (.slice a T c) T (nums (catN l l.length)) ∧ (∀ b, (Value.slice a T c).ownBlock = some b → w.heap.size ≤ b) ∧ Below w.heap.size w w' := by
  have HN : Hid (n = l.length) := hn
  have HT : Hid (T = (catN l l.length).length) := hT
  have HP : Hid (∀ W, Below w.heap.size w W → ∀ k, k < n → PtAt W (l.getD k zPt).1 (l.getD k zPt).2) := fun W q k hk => (hp _ (by simp [List.getD, show k < l.length by omega])).below q
  have HC : Hid (∀ W, Below w.heap.size w W → ∀ k, k < n → W.cell? ⟨gS, k, none⟩ = some (l.getD k zPt).1) := fun W q k hk => by
    rw [(o.below q).cell k]
    simp [List.getD, show k < l.length by omega]
  have HLE : Hid (∀ k, (catN l k).length ≤ T) := fun k => by rw [hT]; exact catN_le l k
  have hni : (n : Int) ≤ 100 := by omega
  have hTi : (T : Int) ≤ 10000000 := by omega
  clear hn hT o hp
  go_enter Try.func22, Try.ntmps22
  go_wp2_with fail
  go_loopw [3, 11] (fun sz i wr => ∃ k : Nat, k ≤ n ∧ i = .int .i64 (k : Int) ∧ sz = .int .i64 ((catN l k).length : Int) ∧ wr = w) (fun _ i _ => n - (intOf i).toNat)
  case atStart => exact ⟨0, Nat.zero_le _, rfl, rfl, rfl⟩
  case round =>
    obtain ⟨k, hk, rfl, rfl, e0⟩ := hrel
    have e0 := e0.symm
    subst e0
    by_cases hlt : k < n
    · obtain ⟨a, c, h1, -, -⟩ := (HP.out w (Below.refl _ _) k hlt).ex
      have d := HC.out w (Below.refl _ _) k hlt
      rw [h1] at d
      have hs := catN_succ l k (by rw [← HN.out]; exact hlt)
      have h5 := HLE.out (k + 1)
      rw [hs, List.length_append] at h5
      have HS : Hid ((catN l (k + 1)).length = (catN l k).length + (l.getD k zPt).2.length) := by rw [Hid, hs, List.length_append]
      clear hs h1
      generalize (l.getD k zPt).2.length = m at *
      generalize (catN l k).length = S at *
      have hki : (k : Int) < (n : Int) := by omega
      have hk0 : (0 : Int) ≤ (k : Int) := by omega
      have hS : (S : Int) + (m : Int) ≤ 10000000 := by omega
      have hSn : ¬ (S : Int) + (m : Int) < 0 := by omega
      clear h5
      go_wp2
      go_roundw
      case rel => exact ⟨k + 1, hlt, by go_num, by rw [HS.out]; go_num, by first | rfl | trivial⟩
      case measure => simp [intOf]; omega
    · obtain rfl : k = n := by omega
      have HTT : Hid (((catN l k).length : Int) = (T : Int)) := by unfold Hid; rw [HN.out, ← HT.out]
      rw [HTT.out]
      go_wp2_with fail
      refine Calls.mono (grow_nil T hT0 (by omega) w) ?_
      rintro e w1 ⟨g, c, rfl, r1, hg1, b1⟩
      have REL : Hid (Rw w1 5 1 (.slice (some ⟨g, 0, none⟩) 0 c) 0 (nums (catN l 0)) ∧ (∀ b, (Value.slice (some ⟨g, 0, none⟩) 0 c).ownBlock = some b → w.heap.size ≤ b) ∧ Below w.heap.size w w1) := ⟨r1, fun b q => by cases q; exact hg1, b1⟩
      clear r1 hg1 b1
      go_wp2_with fail
      go_loopg [6, 27] k (fun gh v i wr => ∃ (j : Nat) (a : Option Addr) (c : Nat), j + gh = k ∧ i = .int .i64 (j : Int) ∧ v = .slice a (catN l j).length c ∧ Rw wr 5 1 (.slice a (catN l j).length c) (catN l j).length (nums (catN l j)) ∧ (∀ b, (Value.slice a (catN l j).length c).ownBlock = some b → w.heap.size ≤ b) ∧ Below w.heap.size w wr)
      case atStart => exact ⟨0, _, c, by omega, rfl, rfl, REL.out⟩
      case round =>
        clear REL
        obtain ⟨j, a, c, hj, rfl, rfl, hr, hnew, hb⟩ := hrel
        cases gk with
        | succ gq =>
          have hjk : j < k := by omega
          obtain ⟨a2, c2, h1, hl2, hno⟩ := (HP.out wr hb j hjk).ex
          have d := HC.out wr hb j hjk
          rw [h1] at d
          have hs := catN_succ l j (by rw [← HN.out]; exact hjk)
          have h5 := HLE.out (j + 1)
          have HG : Hid (∀ (ao' : Option Addr) (n' c' : Nat) (w' : World), n' = (catN l j ++ (l.getD j zPt).2).length → Rw w' 5 1 (.slice ao' n' c') (catN l j ++ (l.getD j zPt).2).length (nums (catN l j ++ (l.getD j zPt).2)) → wr.grownBy w' (Value.slice a (catN l j).length c).ownBlock → ((Value.slice ao' n' c').ownBlock = (Value.slice a (catN l j).length c).ownBlock ∨ (Value.slice ao' n' c').ownBlock = some wr.heap.size) → n' = (catN l (j + 1)).length ∧ Rw w' 5 1 (.slice ao' (catN l (j + 1)).length c') (catN l (j + 1)).length (nums (catN l (j + 1))) ∧ (∀ b, (Value.slice ao' (catN l (j + 1)).length c').ownBlock = some b → w.heap.size ≤ b) ∧ Below w.heap.size w w') := by
            intro ao' n' c' w' q0 q1 q2 q3
            rw [← hs] at q0 q1
            subst q0
            refine ⟨rfl, q1, fun b q => ?_, hb.grown q2 hb.size hnew⟩
            rcases q3 with q3 | q3
            · exact hnew b (by rw [← q3]; exact q)
            · rw [q3] at q; cases q; exact hb.size
          have HSM : Hid ((catN l j).length + (l.getD j zPt).2.length ≤ 100000000000) := by rw [hs, List.length_append] at h5; unfold Hid; omega
          have hji : (j : Int) < (k : Int) := by omega
          have hj0 : (0 : Int) ≤ (j : Int) := by omega
          clear hs h5 h1 hnew hb
          go_wp2_with (refine wpList_appL (by rfl) (.tmp 31) (.tmp 32) (by rfl) _ (catN l j) (by rfl) hr a2 _ c2 (l.getD j zPt).2 (by rfl) hl2 rfl hno HSM.out ?_; intro ao' n' c' w' g0 g1 g2 g3; obtain ⟨ea, k1, k2, k3⟩ := HG.out ao' n' c' w' g0 g1 g2 g3; clear g0 g1 g2 g3 HG hr; subst ea)
          go_roundg gq
          case measure => omega
          case rel => exact ⟨j + 1, _, _, by omega, by go_num, rfl, k1, k2, k3⟩
        | zero =>
          obtain rfl : j = k := by omega
          have HR : Hid (Rw wr 5 1 (.slice a T c) T (nums (catN l l.length)) ∧ (∀ b, (Value.slice a T c).ownBlock = some b → w.heap.size ≤ b) ∧ Below w.heap.size w wr) := by
            have e1 : (catN l j).length = T := by rw [HN.out]; exact HT.out.symm
            rw [e1] at hr hnew
            rw [HN.out] at hr
            exact ⟨hr, hnew, hb⟩
          have e1 : (catN l j).length = T := by rw [HN.out]; exact HT.out.symm
          clear hr hnew hb
          rw [e1]
          clear e1
          go_wp2
          go_ret
          exact ⟨a, c, rfl, HR.out⟩
end Go.Proofs.Ytghkanagiobggaa
