/-
  slices.Clone of the scope's rows.
-/
import Derived.Test.YtnnajgbkpilaaaaPop
namespace Go.Proofs.Ytnnajgbkpilaaaa
open Go.RowKit
set_option linter.unusedVariables false

theorem wpList_appR {tS e : TypeId} {z : Value} {size bytes : Nat} (I : ElemOk tS e z size bytes) {W : World} {ops : Array Oper} {rest : List Oper} {o : Oper} {a : Act} {Q : Exit → Act → World → Prop} (hgd : o.guard = none) (s x : Operand)
    (ho : o.op = .call { callee := .builtin .append, args := #[s, x], argTypes := #[tS, tS] }) (v : Value) (k : Nat) (ys : List Value) (hs : a.eval s = v) (hown : Rw W e size v k ys) (g n cap : Nat) (xs : List Value) (hx : a.eval x = .slice (some ⟨g, 0, none⟩) n cap) (hr : Rw W e size (.slice (some ⟨g, 0, none⟩) n cap) n xs) (h1 : ∀ u ∈ xs, u.oneCell' = true) (h63 : k + n ≤ 1000000)
    (h : ∀ v' w', Rw w' e size v' (k + n) (ys ++ xs) → W.grownBy w' v.ownBlock → (v'.ownBlock = v.ownBlock ∨ v'.ownBlock = some W.heap.size) → wpList Try.prog ops Q rest (a.put o.dst v') w') :
    wpList Try.prog ops Q (o :: rest) a W := by
  obtain ⟨i8, hi, hz0, hz1, hz2⟩ := info_parts I.info
  have hsm := I.small
  have h8 : (k + n) * bytes ≤ 140737488355328 := Nat.le_trans (Nat.mul_le_mul_left (k + n) hsm) (by omega)
  obtain ⟨v', w', hrun, g1, g2, _, g4⟩ := run_append_own_at (P := Try.prog) W 0 tS o.type e i8 _ size bytes I.under hi hz0 hz1 hz2 I.zs I.pos v k ys hown ⟨g, 0, none⟩ n cap xs hr.1 (fun j u hu => by rw [addr_add]; exact hr.cells j u hu) h1 (by unfold maxLen; omega) h8 (Nat.zero_le _)
  refine wpList_plain hgd fun K hK => ?_
  unfold Oper.wp execOp
  simp only [ho, resolve, invoke, builtin, Sem.run_bind, Sem.run_pure, Result.andThen_ok, List.map_toArray, List.map_cons, List.map_nil, hs, hx, hrun]
  exact hK _ _ (h v' w' g1 g2 g4)
set_option maxHeartbeats 1000000 in
theorem cloneI (w : World) (v : Value) (n : Nat) (xs : List Value) (hr : Rw w 3 1 v n xs) (hn : n ≤ 1000000) (h1 : ∀ u ∈ xs, u.oneCell' = true) :
    Calls Try.prog 30 #[v] w fun e w' => ∃ v', e = .returned v' ∧ Rw w' 3 1 v' n xs ∧ (∀ b, v'.ownBlock = some b → w.heap.size ≤ b) ∧ Below w.heap.size w w' := by
  rcases hr.2 with ⟨rfl, h0⟩ | ⟨g, cap, cur, rfl, _, hg, h3, h4, h5, h6⟩
  · have hnil : ∀ W, (binOp .eql 41 (.slice none 0 0) (.slice none 0 0)).run Try.prog W = .ok (.bool true) W := fun W => Go.Lib.run_eql_slice_nil W 41 3 none 0 0 0 0 Try.underlying41
    go_enter Try.func30, Try.ntmps30
    go_wp2
    go_ret
    exact ⟨_, rfl, hr, fun b hb => by simp [Value.ownBlock] at hb, Below.refl _ _⟩
  · have hnil : ∀ W, (binOp .eql 41 (.slice (some ⟨g, 0, none⟩) n cap) (.slice none 0 0)).run Try.prog W = .ok (.bool false) W := fun W => Go.Lib.run_eql_slice_nil W 41 3 (some ⟨g, 0, none⟩) n cap 0 0 Try.underlying41
    have hmade : Rw (w.alloc (.cells #[] 3)) 3 1 (.slice (some ⟨w.heap.size, 0, none⟩) 0 0) 0 [] := World.ownsRow_made w #[] 0 (Nat.zero_le _) (Nat.zero_le _) rfl
    have hn0 : 0 + n ≤ 1000000 := by omega
    have hr2 := hr.alloc (.cells #[] 3)
    go_enter Try.func30, Try.ntmps30
    go_wp2_with (refine wpList_appR okI (by rfl) (.tmp 5) (.tmp 6) (by rfl) _ 0 [] (by rfl) hmade g n cap xs (by rfl) hr2 h1 hn0 ?_; intro v' w2 k1 k2 k3)
    rw [Nat.zero_add, List.nil_append] at k1
    obtain ⟨ao', cap', rfl, -⟩ := k1.shape
    go_wp2_with fail
    go_ret
    refine ⟨.slice ao' n cap', rfl, k1, fun b hb => ?_, Fr.below (((Fr.refl _ w).alloc _).grown k2 fun k hk e => by simp [Value.ownBlock] at e; omega)⟩
    rcases k3 with q | q
    · rw [q] at hb
      simp [Value.ownBlock] at hb
      omega
    · rw [q] at hb
      have := Option.some.inj hb
      rw [World.size_alloc] at this
      omega
set_option maxHeartbeats 1000000 in
theorem cloneL (w : World) (v : Value) (n : Nat) (xs : List Value) (hr : Rw w 71 2 v n xs) (hn : n ≤ 1000000) (h1 : ∀ u ∈ xs, u.oneCell' = true) :
    Calls Try.prog 29 #[v] w fun e w' => ∃ v', e = .returned v' ∧ Rw w' 71 2 v' n xs ∧ (∀ b, v'.ownBlock = some b → w.heap.size ≤ b) ∧ Below w.heap.size w w' := by
  rcases hr.2 with ⟨rfl, h0⟩ | ⟨g, cap, cur, rfl, _, hg, h3, h4, h5, h6⟩
  · have hnil : ∀ W, (binOp .eql 54 (.slice none 0 0) (.slice none 0 0)).run Try.prog W = .ok (.bool true) W := fun W => Go.Lib.run_eql_slice_nil W 54 71 none 0 0 0 0 Try.underlying54
    go_enter Try.func29, Try.ntmps29
    go_wp2
    go_ret
    exact ⟨_, rfl, hr, fun b hb => by simp [Value.ownBlock] at hb, Below.refl _ _⟩
  · have hnil : ∀ W, (binOp .eql 54 (.slice (some ⟨g, 0, none⟩) n cap) (.slice none 0 0)).run Try.prog W = .ok (.bool false) W := fun W => Go.Lib.run_eql_slice_nil W 54 71 (some ⟨g, 0, none⟩) n cap 0 0 Try.underlying54
    have hmade : Rw (w.alloc (.cells #[] 71)) 71 2 (.slice (some ⟨w.heap.size, 0, none⟩) 0 0) 0 [] := World.ownsRow_made w #[] 0 (Nat.zero_le _) (Nat.zero_le _) rfl
    have hn0 : 0 + n ≤ 1000000 := by omega
    have hr2 := hr.alloc (.cells #[] 71)
    go_enter Try.func29, Try.ntmps29
    go_wp2_with (refine wpList_appR okL (by rfl) (.tmp 5) (.tmp 6) (by rfl) _ 0 [] (by rfl) hmade g n cap xs (by rfl) hr2 h1 hn0 ?_; intro v' w2 k1 k2 k3)
    rw [Nat.zero_add, List.nil_append] at k1
    obtain ⟨ao', cap', rfl, -⟩ := k1.shape
    go_wp2_with fail
    go_ret
    refine ⟨.slice ao' n cap', rfl, k1, fun b hb => ?_, Fr.below (((Fr.refl _ w).alloc _).grown k2 fun k hk e => by simp [Value.ownBlock] at e; omega)⟩
    rcases k3 with q | q
    · rw [q] at hb
      simp [Value.ownBlock] at hb
      omega
    · rw [q] at hb
      have := Option.some.inj hb
      rw [World.size_alloc] at this
      omega
set_option maxHeartbeats 1000000 in
theorem cloneB (w : World) (v : Value) (n : Nat) (xs : List Value) (hr : Rw w 60 1 v n xs) (hn : n ≤ 1000000) (h1 : ∀ u ∈ xs, u.oneCell' = true) :
    Calls Try.prog 49 #[v] w fun e w' => ∃ v', e = .returned v' ∧ Rw w' 60 1 v' n xs ∧ (∀ b, v'.ownBlock = some b → w.heap.size ≤ b) ∧ Below w.heap.size w w' := by
  rcases hr.2 with ⟨rfl, h0⟩ | ⟨g, cap, cur, rfl, _, hg, h3, h4, h5, h6⟩
  · have hnil : ∀ W, (binOp .eql 48 (.slice none 0 0) (.slice none 0 0)).run Try.prog W = .ok (.bool true) W := fun W => Go.Lib.run_eql_slice_nil W 48 60 none 0 0 0 0 Try.underlying48
    go_enter Try.func49, Try.ntmps49
    go_wp2
    go_ret
    exact ⟨_, rfl, hr, fun b hb => by simp [Value.ownBlock] at hb, Below.refl _ _⟩
  · have hnil : ∀ W, (binOp .eql 48 (.slice (some ⟨g, 0, none⟩) n cap) (.slice none 0 0)).run Try.prog W = .ok (.bool false) W := fun W => Go.Lib.run_eql_slice_nil W 48 60 (some ⟨g, 0, none⟩) n cap 0 0 Try.underlying48
    have hmade : Rw (w.alloc (.cells #[] 60)) 60 1 (.slice (some ⟨w.heap.size, 0, none⟩) 0 0) 0 [] := World.ownsRow_made w #[] 0 (Nat.zero_le _) (Nat.zero_le _) rfl
    have hn0 : 0 + n ≤ 1000000 := by omega
    have hr2 := hr.alloc (.cells #[] 60)
    go_enter Try.func49, Try.ntmps49
    go_wp2_with (refine wpList_appR okB (by rfl) (.tmp 5) (.tmp 6) (by rfl) _ 0 [] (by rfl) hmade g n cap xs (by rfl) hr2 h1 hn0 ?_; intro v' w2 k1 k2 k3)
    rw [Nat.zero_add, List.nil_append] at k1
    obtain ⟨ao', cap', rfl, -⟩ := k1.shape
    go_wp2_with fail
    go_ret
    refine ⟨.slice ao' n cap', rfl, k1, fun b hb => ?_, Fr.below (((Fr.refl _ w).alloc _).grown k2 fun k hk e => by simp [Value.ownBlock] at e; omega)⟩
    rcases k3 with q | q
    · rw [q] at hb
      simp [Value.ownBlock] at hb
      omega
    · rw [q] at hb
      have := Option.some.inj hb
      rw [World.size_alloc] at this
      omega
set_option maxHeartbeats 1000000 in
theorem cloneT (w : World) (v : Value) (n : Nat) (xs : List Value) (hr : Rw w 68 3 v n xs) (hn : n ≤ 1000000) (h1 : ∀ u ∈ xs, u.oneCell' = true) :
    Calls Try.prog 50 #[v] w fun e w' => ∃ v', e = .returned v' ∧ Rw w' 68 3 v' n xs ∧ (∀ b, v'.ownBlock = some b → w.heap.size ≤ b) ∧ Below w.heap.size w w' := by
  rcases hr.2 with ⟨rfl, h0⟩ | ⟨g, cap, cur, rfl, _, hg, h3, h4, h5, h6⟩
  · have hnil : ∀ W, (binOp .eql 51 (.slice none 0 0) (.slice none 0 0)).run Try.prog W = .ok (.bool true) W := fun W => Go.Lib.run_eql_slice_nil W 51 68 none 0 0 0 0 Try.underlying51
    go_enter Try.func50, Try.ntmps50
    go_wp2
    go_ret
    exact ⟨_, rfl, hr, fun b hb => by simp [Value.ownBlock] at hb, Below.refl _ _⟩
  · have hnil : ∀ W, (binOp .eql 51 (.slice (some ⟨g, 0, none⟩) n cap) (.slice none 0 0)).run Try.prog W = .ok (.bool false) W := fun W => Go.Lib.run_eql_slice_nil W 51 68 (some ⟨g, 0, none⟩) n cap 0 0 Try.underlying51
    have hmade : Rw (w.alloc (.cells #[] 68)) 68 3 (.slice (some ⟨w.heap.size, 0, none⟩) 0 0) 0 [] := World.ownsRow_made w #[] 0 (Nat.zero_le _) (Nat.zero_le _) rfl
    have hn0 : 0 + n ≤ 1000000 := by omega
    have hr2 := hr.alloc (.cells #[] 68)
    go_enter Try.func50, Try.ntmps50
    go_wp2_with (refine wpList_appR okT (by rfl) (.tmp 5) (.tmp 6) (by rfl) _ 0 [] (by rfl) hmade g n cap xs (by rfl) hr2 h1 hn0 ?_; intro v' w2 k1 k2 k3)
    rw [Nat.zero_add, List.nil_append] at k1
    obtain ⟨ao', cap', rfl, -⟩ := k1.shape
    go_wp2_with fail
    go_ret
    refine ⟨.slice ao' n cap', rfl, k1, fun b hb => ?_, Fr.below (((Fr.refl _ w).alloc _).grown k2 fun k hk e => by simp [Value.ownBlock] at e; omega)⟩
    rcases k3 with q | q
    · rw [q] at hb
      simp [Value.ownBlock] at hb
      omega
    · rw [q] at hb
      have := Option.some.inj hb
      rw [World.size_alloc] at this
      omega
end Go.Proofs.Ytnnajgbkpilaaaa
