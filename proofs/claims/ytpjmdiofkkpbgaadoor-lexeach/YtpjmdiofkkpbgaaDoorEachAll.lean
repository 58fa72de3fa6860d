/-
  CONTRACTS of slices.All over tokens, of the function that it answers, and of the landed lex's Each.
-/
import Derived.Test.YtpjmdiofkkpbgaaDoorWorks
import Derived.Test.YtpjmdiofkkpbgaaDoorTokLaw
import Derived.Test.YtpjmdiofkkpbgaaDoorXScan
import Derived.RangeFuncBox
namespace Go.Proofs.YtpjmdiofkkpbgaaDoor
open Go.RowKit Go.Shelf
set_option linter.unusedVariables false
attribute [local go_sem] Oper.semAt_some

abbrev Tk := Nat × List Nat × Nat × Nat × Nat
def tkV (t : Tk) : Value := .agg #[.int .u8 (t.1 : Int), .string (strN t.2.1), .int .u64 (t.2.2.1 : Int), .int .i64 (t.2.2.2.1 : Int), .int .i64 (t.2.2.2.2 : Int)]
/-- The first k tokens with their numbers. -/
def numb (ts : List Tk) (k : Nat) : List (Nat × Tk) := (List.range k).map fun j => (j, ts.getD j default)
theorem numb_succ (ts : List Tk) (k : Nat) : numb ts (k + 1) = numb ts k ++ [(k, ts.getD k default)] := by simp [numb, List.range_succ]
theorem numb_length (ts : List Tk) (k : Nat) : (numb ts k).length = k := by simp [numb]
theorem numb_prefix (ts : List Tk) (k n : Nat) (h : k ≤ n) : numb ts k <+: numb ts n := by
  obtain ⟨d, rfl⟩ := Nat.exists_eq_add_of_le h
  induction d with
  | zero => exact List.prefix_refl _
  | succ d ih => exact (ih (by omega)).trans ⟨_, (numb_succ ts (k + d)).symm⟩
def AllRel (ts : List Tk) (n₀ len : Nat) (J : List (Nat × Tk) → World → Prop) (W : World) (i : Value) (wr : World) : Prop :=
  ∃ k : Nat, k ≤ len ∧ i = .int .i64 k ∧ J (numb ts k) wr ∧ Below n₀ W wr ∧ W.heap.size ≤ wr.heap.size
set_option maxRecDepth 100000 in
set_option maxHeartbeats 2000000 in
theorem all1_in (n : Nat) (hn : 1 ≤ n) (l Bs n₀ b len cap : Nat) (ts : List Tk) (hlen : Hid (ts.length = len)) (hl2 : len ≤ 8192) (hb : b < n₀) (J Jx : List (Nat × Tk) → World → Prop) (W : World)
    (HJ : Hid (AbidesFrom W.heap.size J))
    (HY : Hid (∀ pre x W1, J pre W1 → pre.length < len → YieldAt Fence.wide (n - 1) Tryd.prog l #[.int .i64 (x.1 : Int), tkV x.2] W1 fun e W' =>
      (e = .returned (.bool true) ∧ J (pre ++ [x]) W' ∧ Below n₀ W1 W') ∨ (e = .returned (.bool false) ∧ Jx (pre ++ [x]) W')))
    (hn₀ : n₀ ≤ W.heap.size) (hBs : W.cell? ⟨Bs, 0, none⟩ = some (.slice (some ⟨b, 0, none⟩) len cap)) (HC : Hid (∀ i, i < ts.length * 5 → W.cell? ⟨b, i, none⟩ = (rowT ts)[i]?)) (H0 : Hid (J [] W)) :
    CallsIn Fence.wide n Tryd.prog 41 #[.func (.yield l) #[] #[], .pointer (some ⟨Bs, 0, none⟩)] W fun e W' => (∃ v, e = .returned v) ∧
      ((∃ ys, ys = numb ts len ∧ J ys W') ∨ (∃ pre, pre <+: numb ts len ∧ Jx pre W')) := by
  refine callsIn_of_wp Tryd.func41 rfl trivial ?_ rfl
  simp only [Tryd.ntmps41, List.size_toArray, List.length_cons, List.length_nil, Nat.reduceAdd, Nat.reduceSub, Array.replicate_succ, Array.replicate_zero, List.push_toArray, List.append_toArray, List.nil_append, List.cons_append]
  gi_wp2_with fail
  gi_loopw [7] (fun i wr => AllRel ts n₀ len J W i wr) (fun i _ => len - (intOf i).toNat)
  case atStart => exact ⟨0, Nat.zero_le _, rfl, H0.out, Below.refl _ _, Nat.le_refl _⟩
  case round =>
    obtain ⟨k, hk, rfl, hJp, hbel, hsz⟩ := hrel
    have HJP : Hid (J (numb ts k) wr) := hJp
    have BL : Hid (Below n₀ W wr) := hbel
    clear hJp hbel
    by_cases hlt : k < len
    · obtain ⟨a0, a1, a2, a3, a4⟩ := lies_cells hlen.out HC.out hlt
      rw [← BL.out.cell (p := ⟨b, k * 5, none⟩) hb] at a0
      rw [← BL.out.cell (p := ⟨b, k * 5 + 1, none⟩) hb] at a1
      rw [← BL.out.cell (p := ⟨b, k * 5 + 2, none⟩) hb] at a2
      rw [← BL.out.cell (p := ⟨b, k * 5 + 3, none⟩) hb] at a3
      rw [← BL.out.cell (p := ⟨b, k * 5 + 4, none⟩) hb] at a4
      obtain ⟨t, ht⟩ : ∃ t, Hid (ts.getD k default = t) := ⟨_, rfl⟩
      rw [ht.out] at a0 a1 a2 a3 a4
      obtain ⟨v0, h0⟩ : ∃ v : Int, (t.1 : Int) = v := ⟨_, rfl⟩
      obtain ⟨v1, h1⟩ : ∃ v, strN t.2.1 = v := ⟨_, rfl⟩
      obtain ⟨v2, h2⟩ : ∃ v : Int, (t.2.2.1 : Int) = v := ⟨_, rfl⟩
      obtain ⟨v3, h3⟩ : ∃ v : Int, (t.2.2.2.1 : Int) = v := ⟨_, rfl⟩
      obtain ⟨v4, h4⟩ : ∃ v : Int, (t.2.2.2.2 : Int) = v := ⟨_, rfl⟩
      have HV : Hid (tkV t = .agg #[.int .u8 v0, .string v1, .int .u64 v2, .int .i64 v3, .int .i64 v4]) := by unfold Hid tkV; rw [h0, h1, h2, h3, h4]
      rw [h0] at a0
      rw [h1] at a1
      rw [h2] at a2
      rw [h3] at a3
      rw [h4] at a4
      clear h0 h1 h2 h3 h4
      have hg2 : wr.grownBy (wr.alloc (.cells #[.int .u8 v0, .string v1, .int .u64 v2, .int .i64 v3, .int .i64 v4] 35)) none := grown_of_below ((Below.refl _ wr).alloc (Nat.le_refl _) _)
      have hJ3 := HJ.out (numb ts k) wr _ none HJP.out hg2 (fun r e => by cases e)
      have hy0 := HY.out (numb ts k) (k, t) _ hJ3 (by rw [numb_length]; exact hlt)
      simp only at hy0
      rw [HV.out] at hy0
      obtain ⟨fn, tmps, assign, body, hy, hR⟩ := hy0
      have BL3 : Hid (Below n₀ W (wr.alloc (.cells #[.int .u8 v0, .string v1, .int .u64 v2, .int .i64 v3, .int .i64 v4] 35))) := BL.out.trans ((Below.refl n₀ wr).alloc (by omega) _)
      have HS3 : Hid (W.heap.size ≤ (wr.alloc (.cells #[.int .u8 v0, .string v1, .int .u64 v2, .int .i64 v3, .int .i64 v4] 35)).heap.size) := by unfold Hid; rw [World.size_alloc]; omega
      clear hg2 hJ3
      gi_wp2
      refine hR.mono ?_
      rintro e W3 (⟨rfl, hJ4, hk4⟩ | ⟨rfl, hJx4⟩)
      · have BL4 : Hid (Below n₀ W W3) := BL3.out.trans hk4
        have hs4 : W.heap.size ≤ W3.heap.size := Nat.le_trans HS3.out hk4.size
        have HJ4 : Hid (J (numb ts (k + 1)) W3) := by unfold Hid; rw [numb_succ, ht.out]; exact hJ4
        clear hk4 hJ4 hR hy
        gi_wp2
        go_roundw
        case rel => exact ⟨k + 1, by omega, by go_num, HJ4.out, BL4.out, hs4⟩
        case measure => simp [intOf]; omega
      · have HJX : Hid (Jx (numb ts (k + 1)) W3) := by unfold Hid; rw [numb_succ, ht.out]; exact hJx4
        clear hJx4 hR hy
        gi_wp2
        refine bodyPost_ret (results_none rfl _ _ _) rfl ?_
        exact ⟨⟨_, rfl⟩, .inr ⟨_, numb_prefix ts (k + 1) len (by omega), HJX.out⟩⟩
    · have hkl : k = len := by omega
      subst hkl
      gi_wp2
      go_end0
      exact ⟨⟨_, rfl⟩, .inl ⟨_, rfl, HJP.out⟩⟩
set_option maxRecDepth 100000 in
set_option maxHeartbeats 1000000 in
theorem all1_none (n : Nat) (l Bs cap : Nat) (ao : Option Addr) (J : List (Nat × Tk) → World → Prop) (W : World) (hBs : W.cell? ⟨Bs, 0, none⟩ = some (.slice ao 0 cap)) (H0 : Hid (J [] W)) :
    CallsIn Fence.wide n Tryd.prog 41 #[.func (.yield l) #[] #[], .pointer (some ⟨Bs, 0, none⟩)] W fun e W' => (∃ v, e = .returned v) ∧ J [] W' := by
  refine callsIn_of_wp Tryd.func41 rfl trivial ?_ rfl
  simp only [Tryd.ntmps41, List.size_toArray, List.length_cons, List.length_nil, Nat.reduceAdd, Nat.reduceSub, Array.replicate_succ, Array.replicate_zero, List.push_toArray, List.append_toArray, List.nil_append, List.cons_append]
  gi_wp2_with fail
  gi_loopw [7] (fun i wr => i = .int .i64 0 ∧ J [] wr) (fun _ _ => 0)
  case atStart => exact ⟨rfl, H0.out⟩
  case round =>
    obtain ⟨rfl, hJs⟩ := hrel
    gi_wp2
    go_end0
    exact ⟨⟨_, rfl⟩, hJs⟩
/-- **slices.All** boxes the slice; the function that it answers goes over the tokens with their numbers, as often as it is asked to. -/
theorem all_stops (n : Nat) (hn : 1 ≤ n) (Bs n₀ len cap : Nat) (ao : Option Addr) (ts : List Tk) (hlen : ts.length = len) (hl2 : len ≤ 8192) (w : World) (hn₀ : n₀ ≤ w.heap.size) (hBs : Bs < w.heap.size) (hc : w.cell? ⟨Bs, 0, none⟩ = some (.slice ao len cap)) (hL : TokLies w ao ts) (hlt : ∀ b, ao = some ⟨b, 0, none⟩ → b < n₀) :
    SeqStopsK Fence.wide n Tryd.prog 41 #[.pointer (some ⟨Bs, 0, none⟩)] (fun x : Nat × Tk => #[.int .i64 (x.1 : Int), tkV x.2]) (Below n₀) (fun ys => ys = numb ts len) (fun pre => pre <+: numb ts len) len w := fun l J Jx W hW hJ _ hY h0 => by
  have hc' := (hW.cell (p := ⟨Bs, 0, none⟩) hBs).trans hc
  rcases hL with rfl | ⟨b, rfl, hcell⟩
  · obtain rfl : len = 0 := by rw [← hlen]; rfl
    exact (all1_none n l Bs cap ao J W hc' h0).mono fun e W' ⟨he, hj⟩ => ⟨he, .inl ⟨_, rfl, hj⟩⟩
  · exact all1_in n hn l Bs n₀ b len cap ts hlen hl2 (hlt b rfl) J Jx W hJ hY (Nat.le_trans hn₀ hW.size) hc' (fun i hi => (hW.cell (p := ⟨b, i, none⟩) (Nat.lt_of_lt_of_le (hlt b rfl) hn₀)).trans (hcell i hi)) h0
set_option maxRecDepth 100000 in
theorem sall_any (ao : Option Addr) (len cap : Nat) (w : World) :
    Calls Tryd.prog 25 #[.slice ao len cap] w fun e w' => e = .returned (.func (.func 41) #[] #[.pointer (some ⟨w.heap.size, 0, none⟩)]) ∧ w' = w.alloc (.cells #[.slice ao len cap] 22) := by
  go_enter Tryd.func25, Tryd.ntmps25
  go_wp2
  go_ret
  exact ⟨rfl, rfl⟩
def rowOf (TT : Except (Nat × Nat) (List Tk)) : List Tk := match TT with | .ok ts => ts | .error _ => []
set_option maxRecDepth 100000 in
theorem xeach_any (s : ByteArray) (h : s.size ≤ 8192) (TT : Except (Nat × Nat) (List Tk)) (HT : Hid (tokens (bytesN s) = TT)) (w : World) (HL : Hid (Laid w)) :
    Calls Tryd.prog 14 #[.string s] w fun e w' => ∃ (Bs : Nat) (ao : Option Addr) (cap : Nat), e = .returned (.func (.func 41) #[] #[.pointer (some ⟨Bs, 0, none⟩)]) ∧ (w.heap.size ≤ Bs ∧ Bs < w'.heap.size) ∧ w'.cell? ⟨Bs, 0, none⟩ = some (.slice ao (rowOf TT).length cap) ∧ TokLies w' ao (rowOf TT) ∧ (∀ b, ao = some ⟨b, 0, none⟩ → w.heap.size ≤ b ∧ b < w'.heap.size) ∧ Below w.heap.size w w' := by
  match TT, HT with
  | .ok ts, HT =>
    obtain ⟨n, hn⟩ : ∃ n, Hid (ts.length = n) := ⟨_, rfl⟩
    go_enter Tryd.func14, Tryd.ntmps14
    go_wp2_with fail
    refine (tok_ok (by omega) ts HT.out HL.out).mono ?_
    rintro e w1 ⟨va, rfl, ownA, bel1⟩
    rw [hn.out] at ownA
    obtain ⟨aa, ca, rfl⟩ := own_form ownA
    have OA : Hid (w1.ownsRow w.heap.size 35 5 (.slice aa n ca) n (rowT ts)) := ownA
    have B1 : Hid (Below w.heap.size w w1) := bel1
    clear ownA bel1
    go_wp2_with fail
    refine (sall_any aa n ca w1).mono ?_
    rintro e w2 ⟨rfl, rfl⟩
    go_wp2
    go_ret
    have hA : Below w1.heap.size w1 (w1.alloc (.cells #[.slice aa n ca] 22)) := (Below.refl _ w1).alloc (Nat.le_refl _) _
    exact ⟨w1.heap.size, aa, ca, rfl, ⟨B1.out.size, by rw [World.size_alloc]; omega⟩, by show _ = some (Value.slice aa ts.length ca); rw [hn.out]; exact (Boxed.new w1 22 _).cell, lies_below (lies_own OA.out hn.out) hA (fun b hb => (own_block OA.out b hb).2), (fun b hb => by rw [World.size_alloc]; have := own_block OA.out b hb; omega), below_chain B1.out hA (Nat.le_refl _)⟩
  | .error (p, k), HT =>
    go_enter Tryd.func14, Tryd.ntmps14
    go_wp2_with fail
    refine (tok_no (by omega) p k HT.out HL.out).mono ?_
    rintro e w1 ⟨rfl, bel1⟩
    have B1 : Hid (Below w.heap.size w w1) := bel1
    clear bel1
    go_wp2_with fail
    refine (sall_any none 0 0 w1).mono ?_
    rintro e w2 ⟨rfl, rfl⟩
    go_wp2
    go_ret
    have hA : Below w1.heap.size w1 (w1.alloc (.cells #[.slice none 0 0] 22)) := (Below.refl _ w1).alloc (Nat.le_refl _) _
    exact ⟨w1.heap.size, none, 0, rfl, ⟨B1.out.size, by rw [World.size_alloc]; omega⟩, (Boxed.new w1 22 _).cell, .inl rfl, (fun b hb => by cases hb), below_chain B1.out hA (Nat.le_refl _)⟩
end Go.Proofs.YtpjmdiofkkpbgaaDoor
