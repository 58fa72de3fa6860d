/-
  Texts joined: EachRound, EachAll, EachWalk, EachFace.
-/
import Derived.Sort.QuietIn
import Derived.RangeFuncCalls
import Derived.OrdersIn
import Derived.TacticsIn
import Derived.Test.YteeoakbafbnkhaaDoorWorks
import Derived.Test.YteeoakbafbnkhaaDoorLawWalks
import Derived.Test.YteeoakbafbnkhaaDoorXScan
import Derived.RangeFuncBox
import Derived.BigRegion

/-
  A LAW: a region that draws its order and only reads, inside a round of a range over a function: one walk, as outside.
-/
namespace Go.Proofs.YteeoakbafbnkhaaDoor
open Go

def noDefer (o : Oper) : Bool := match o.op with | .defer _ => false | _ => true
theorem noDefer_spec {o : Oper} (h : noDefer o = true) : ∀ c, o.op ≠ .defer c := by
  intro c e; unfold noDefer at h; rw [e] at h; cases h
theorem wpIn_in_round {F : Fence} {n : Nat} {P : Program} {Q : Exit → Act → World → Prop} {o : Oper} {a : Act} {w : World} {K : Act → World → Prop} (l : Nat) (hro : F.round = none) (hd : ∀ c, o.op ≠ .defer c)
    (hh : o.wpIn F n P a w K Q) : o.wpIn (F.inRound l) n P a w K Q := by
  unfold Oper.wpIn at *
  refine ⟨hh.1, ?_⟩
  have h2 := hh.2
  rw [hro, Oper.semAt_none] at h2
  rw [show (F.inRound l).round = some l from rfl, Oper.semAt_some l _ o hd]
  generalize (execOp a.eval o).run P w = r at h2 ⊢
  cases r with
  | ok x w' => cases x <;> exact h2
  | halt x w' => cases x <;> exact h2
theorem wpOpIn_in_round {F : Fence} {n : Nat} {P : Program} {ops : Array Oper} {Q : Exit → Act → World → Prop} (l : Nat) (hro : F.round = none) (hd : ∀ (i : Nat) (o : Oper), ops[i]? = some o → ∀ c, o.op ≠ .defer c) {i : Nat} {a : Act} {w : World} {K K' : Act → World → Prop} (h : ∀ a w, K a w → K' a w)
    (hh : wpOpIn F n P ops Q i K a w) : wpOpIn (F.inRound l) n P ops Q i K' a w := by
  refine wpOpIn_mono h ?_
  unfold wpOpIn at *
  cases ho : ops[i]? with
  | none => rw [ho] at hh; exact hh
  | some o =>
    rw [ho] at hh
    simp only at hh ⊢
    split
    · rename_i hw; rw [if_pos hw] at hh; exact wpIn_in_round l hro (hd i o ho) hh
    · rename_i hw; rw [if_neg hw] at hh; exact hh
theorem wpAnyIn_in_round {F : Fence} {n : Nat} {P : Program} {ops : Array Oper} {Q : Exit → Act → World → Prop} {md : Region.Mode} (l : Nat) (hro : F.round = none) (hd : ∀ (i : Nat) (o : Oper), ops[i]? = some o → ∀ c, o.op ≠ .defer c) :
    ∀ (fuel : Nat) (listed : Array Bool) (a : Act) (w : World), wpAnyIn F n P md ops Q fuel listed a w → wpAnyIn (F.inRound l) n P md ops Q fuel listed a w
  | 0, _, _, _, h => h
  | fuel + 1, _, _, _, h => ⟨h.1, fun i hi => wpOpIn_in_round l hro hd (fun a w => wpAnyIn_in_round l hro hd fuel _ a w) (h.2 i hi)⟩
theorem wpIn_region_quiet_round {F : Fence} {n : Nat} {P : Program} {r id : Nat} {Q : Exit → Act → World → Prop} {a : Act} {w : World} {l : List Oper} (hro : F.round = none) (hm : P.follows .mixedOrders = true) (hd : l.all noDefer = true) (hB : Region.lexB .any l.toArray = true)
    (h : wpQuietIn F n P l.toArray (fun w' => ∃ n, w' = w.drewN n) (fun a' => ∀ w', (∃ n, w' = w.drewN n) → Q .normal a' w') l a) : (Code.region id l.toArray true).wpIn (F.inRound r) n P Q a w := by
  have hd' : ∀ (i : Nat) (o : Oper), l.toArray[i]? = some o → ∀ c, o.op ≠ .defer c := by
    intro i o ho
    rw [List.getElem?_toArray] at ho
    exact noDefer_spec (List.all_eq_true.1 hd o (List.mem_of_getElem? ho))
  simp only [Region.lexB, Bool.and_eq_true] at hB
  refine wpIn_region_any hm (wpAnyIn_in_round r hro hd' _ _ _ _ (wpAnyIn_of_quiet (C := fun w' => ∃ n, w' = w.drewN n) (Q := fun a' => ∀ w', (∃ n, w' = w.drewN n) → Q .normal a' w') hro (fun _ w' hw' h => h w' hw') _ _ _ _ ⟨1, rfl⟩ ?_))
  have := wpAnyQIn_lex (F := F) (n := n) (C := fun w' => ∃ n, w' = w.drewN n) (md := .any) hB.1 l 0 (Array.replicate l.toArray.size false) a (by simp) (by simpa using hB.2) h
  simpa using this
theorem keeps_drewN (W : World) (n : Nat) : KeepsOthers W (W.drewN n) := ⟨Nat.le_refl _, fun _ _ h _ => h⟩
end Go.Proofs.YteeoakbafbnkhaaDoor

/-
  CONTRACTS of slices.All over tokens, of the function that it answers, and of the landed lex's Each.
-/
namespace Go.Proofs.YteeoakbafbnkhaaDoor
open Go.RowKit Go.Shelf
set_option linter.unusedVariables false
attribute [local go_sem] Oper.semAt_some

abbrev Tk := Nat × List Nat × Nat × Nat × Nat
def tkV (t : Tk) : Value := .agg #[.int .u8 (t.1 : Int), .string (strN t.2.1), .int .u64 (t.2.2.1 : Int), .int .i64 (t.2.2.2.1 : Int), .int .i64 (t.2.2.2.2 : Int)]
/-- The first k tokens with their numbers. -/
def numb (ts : List Tk) (k : Nat) : List (Nat × Tk) := (List.range k).map fun j => (j, ts.getD j default)
theorem numb_succ (ts : List Tk) (k : Nat) : numb ts (k + 1) = numb ts k ++ [(k, ts.getD k default)] := by simp [numb, List.range_succ]
theorem numb_length (ts : List Tk) (k : Nat) : (numb ts k).length = k := by simp [numb]
theorem numb_prefix (ts : List Tk) (k n : Nat) (h : k ≤ n) : numb ts k <+: numb ts n := by
  obtain ⟨d, rfl⟩ := Nat.exists_eq_add_of_le h
  induction d with
  | zero => exact List.prefix_refl _
  | succ d ih => exact (ih (by omega)).trans ⟨_, (numb_succ ts (k + d)).symm⟩
def AllRel (ts : List Tk) (n₀ len : Nat) (J : List (Nat × Tk) → World → Prop) (W : World) (i : Value) (wr : World) : Prop :=
  ∃ k : Nat, k ≤ len ∧ i = .int .i64 k ∧ J (numb ts k) wr ∧ Below n₀ W wr ∧ W.heap.size ≤ wr.heap.size
set_option maxRecDepth 100000 in
set_option maxHeartbeats 2000000 in
theorem all1_in (n : Nat) (hn : 1 ≤ n) (l Bs n₀ b len cap : Nat) (ts : List Tk) (hlen : Hid (ts.length = len)) (hl2 : len ≤ 8192) (hb : b < n₀) (J Jx : List (Nat × Tk) → World → Prop) (W : World)
    (HJ : Hid (AbidesFrom W.heap.size J))
    (HY : Hid (∀ pre x W1, J pre W1 → pre.length < len → YieldAt Fence.wide (n - 1) Tryd.prog l #[.int .i64 (x.1 : Int), tkV x.2] W1 fun e W' =>
      (e = .returned (.bool true) ∧ J (pre ++ [x]) W' ∧ Below n₀ W1 W') ∨ (e = .returned (.bool false) ∧ Jx (pre ++ [x]) W')))
    (hn₀ : n₀ ≤ W.heap.size) (hBs : W.cell? ⟨Bs, 0, none⟩ = some (.slice (some ⟨b, 0, none⟩) len cap)) (HC : Hid (∀ i, i < ts.length * 5 → W.cell? ⟨b, i, none⟩ = (rowT ts)[i]?)) (H0 : Hid (J [] W)) :
    CallsIn Fence.wide n Tryd.prog 46 #[.func (.yield l) #[] #[], .pointer (some ⟨Bs, 0, none⟩)] W fun e W' => (∃ v, e = .returned v) ∧
      ((∃ ys, ys = numb ts len ∧ J ys W') ∨ (∃ pre, pre <+: numb ts len ∧ Jx pre W')) := by
  refine callsIn_of_wp Tryd.func46 rfl trivial ?_ rfl
  simp only [Tryd.ntmps46, List.size_toArray, List.length_cons, List.length_nil, Nat.reduceAdd, Nat.reduceSub, Array.replicate_succ, Array.replicate_zero, List.push_toArray, List.append_toArray, List.nil_append, List.cons_append]
  gi_wp2_with fail
  gi_loopw [7] (fun i wr => AllRel ts n₀ len J W i wr) (fun i _ => len - (intOf i).toNat)
  case atStart => exact ⟨0, Nat.zero_le _, rfl, H0.out, Below.refl _ _, Nat.le_refl _⟩
  case round =>
    obtain ⟨k, hk, rfl, hJp, hbel, hsz⟩ := hrel
    have HJP : Hid (J (numb ts k) wr) := hJp
    have BL : Hid (Below n₀ W wr) := hbel
    clear hJp hbel
    by_cases hlt : k < len
    · obtain ⟨a0, a1, a2, a3, a4⟩ := lies_cells hlen.out HC.out hlt
      rw [← BL.out.cell (p := ⟨b, k * 5, none⟩) hb] at a0
      rw [← BL.out.cell (p := ⟨b, k * 5 + 1, none⟩) hb] at a1
      rw [← BL.out.cell (p := ⟨b, k * 5 + 2, none⟩) hb] at a2
      rw [← BL.out.cell (p := ⟨b, k * 5 + 3, none⟩) hb] at a3
      rw [← BL.out.cell (p := ⟨b, k * 5 + 4, none⟩) hb] at a4
      obtain ⟨t, ht⟩ : ∃ t, Hid (ts.getD k default = t) := ⟨_, rfl⟩
      rw [ht.out] at a0 a1 a2 a3 a4
      obtain ⟨v0, h0⟩ : ∃ v : Int, (t.1 : Int) = v := ⟨_, rfl⟩
      obtain ⟨v1, h1⟩ : ∃ v, strN t.2.1 = v := ⟨_, rfl⟩
      obtain ⟨v2, h2⟩ : ∃ v : Int, (t.2.2.1 : Int) = v := ⟨_, rfl⟩
      obtain ⟨v3, h3⟩ : ∃ v : Int, (t.2.2.2.1 : Int) = v := ⟨_, rfl⟩
      obtain ⟨v4, h4⟩ : ∃ v : Int, (t.2.2.2.2 : Int) = v := ⟨_, rfl⟩
      have HV : Hid (tkV t = .agg #[.int .u8 v0, .string v1, .int .u64 v2, .int .i64 v3, .int .i64 v4]) := by unfold Hid tkV; rw [h0, h1, h2, h3, h4]
      rw [h0] at a0
      rw [h1] at a1
      rw [h2] at a2
      rw [h3] at a3
      rw [h4] at a4
      clear h0 h1 h2 h3 h4
      have hg2 : wr.grownBy (wr.alloc (.cells #[.int .u8 v0, .string v1, .int .u64 v2, .int .i64 v3, .int .i64 v4] 39)) none := grown_of_below ((Below.refl _ wr).alloc (Nat.le_refl _) _)
      have hJ3 := HJ.out (numb ts k) wr _ none HJP.out hg2 (fun r e => by cases e)
      have hy0 := HY.out (numb ts k) (k, t) _ hJ3 (by rw [numb_length]; exact hlt)
      simp only at hy0
      rw [HV.out] at hy0
      obtain ⟨fn, tmps, assign, body, hy, hR⟩ := hy0
      have BL3 : Hid (Below n₀ W (wr.alloc (.cells #[.int .u8 v0, .string v1, .int .u64 v2, .int .i64 v3, .int .i64 v4] 39))) := BL.out.trans ((Below.refl n₀ wr).alloc (by omega) _)
      have HS3 : Hid (W.heap.size ≤ (wr.alloc (.cells #[.int .u8 v0, .string v1, .int .u64 v2, .int .i64 v3, .int .i64 v4] 39)).heap.size) := by unfold Hid; rw [World.size_alloc]; omega
      clear hg2 hJ3
      gi_wp2
      refine hR.mono ?_
      rintro e W3 (⟨rfl, hJ4, hk4⟩ | ⟨rfl, hJx4⟩)
      · have BL4 : Hid (Below n₀ W W3) := BL3.out.trans hk4
        have hs4 : W.heap.size ≤ W3.heap.size := Nat.le_trans HS3.out hk4.size
        have HJ4 : Hid (J (numb ts (k + 1)) W3) := by unfold Hid; rw [numb_succ, ht.out]; exact hJ4
        clear hk4 hJ4 hR hy
        gi_wp2
        go_roundw
        case rel => exact ⟨k + 1, by omega, by go_num, HJ4.out, BL4.out, hs4⟩
        case measure => simp [intOf]; omega
      · have HJX : Hid (Jx (numb ts (k + 1)) W3) := by unfold Hid; rw [numb_succ, ht.out]; exact hJx4
        clear hJx4 hR hy
        gi_wp2
        refine bodyPost_ret (results_none rfl _ _ _) rfl ?_
        exact ⟨⟨_, rfl⟩, .inr ⟨_, numb_prefix ts (k + 1) len (by omega), HJX.out⟩⟩
    · have hkl : k = len := by omega
      subst hkl
      gi_wp2
      go_end0
      exact ⟨⟨_, rfl⟩, .inl ⟨_, rfl, HJP.out⟩⟩
set_option maxRecDepth 100000 in
set_option maxHeartbeats 1000000 in
theorem all1_none (n : Nat) (l Bs cap : Nat) (ao : Option Addr) (J : List (Nat × Tk) → World → Prop) (W : World) (hBs : W.cell? ⟨Bs, 0, none⟩ = some (.slice ao 0 cap)) (H0 : Hid (J [] W)) :
    CallsIn Fence.wide n Tryd.prog 46 #[.func (.yield l) #[] #[], .pointer (some ⟨Bs, 0, none⟩)] W fun e W' => (∃ v, e = .returned v) ∧ J [] W' := by
  refine callsIn_of_wp Tryd.func46 rfl trivial ?_ rfl
  simp only [Tryd.ntmps46, List.size_toArray, List.length_cons, List.length_nil, Nat.reduceAdd, Nat.reduceSub, Array.replicate_succ, Array.replicate_zero, List.push_toArray, List.append_toArray, List.nil_append, List.cons_append]
  gi_wp2_with fail
  gi_loopw [7] (fun i wr => i = .int .i64 0 ∧ J [] wr) (fun _ _ => 0)
  case atStart => exact ⟨rfl, H0.out⟩
  case round =>
    obtain ⟨rfl, hJs⟩ := hrel
    gi_wp2
    go_end0
    exact ⟨⟨_, rfl⟩, hJs⟩
/-- **slices.All** boxes the slice; the function that it answers goes over the tokens with their numbers, as often as it is asked to. -/
theorem all_stops (n : Nat) (hn : 1 ≤ n) (Bs n₀ len cap : Nat) (ao : Option Addr) (ts : List Tk) (hlen : ts.length = len) (hl2 : len ≤ 8192) (w : World) (hn₀ : n₀ ≤ w.heap.size) (hBs : Bs < w.heap.size) (hc : w.cell? ⟨Bs, 0, none⟩ = some (.slice ao len cap)) (hL : TokLies w ao ts) (hlt : ∀ b, ao = some ⟨b, 0, none⟩ → b < n₀) :
    SeqStopsK Fence.wide n Tryd.prog 46 #[.pointer (some ⟨Bs, 0, none⟩)] (fun x : Nat × Tk => #[.int .i64 (x.1 : Int), tkV x.2]) (Below n₀) (fun ys => ys = numb ts len) (fun pre => pre <+: numb ts len) len w := fun l J Jx W hW hJ _ hY h0 => by
  have hc' := (hW.cell (p := ⟨Bs, 0, none⟩) hBs).trans hc
  rcases hL with rfl | ⟨b, rfl, hcell⟩
  · obtain rfl : len = 0 := by rw [← hlen]; rfl
    exact (all1_none n l Bs cap ao J W hc' h0).mono fun e W' ⟨he, hj⟩ => ⟨he, .inl ⟨_, rfl, hj⟩⟩
  · exact all1_in n hn l Bs n₀ b len cap ts hlen hl2 (hlt b rfl) J Jx W hJ hY (Nat.le_trans hn₀ hW.size) hc' (fun i hi => (hW.cell (p := ⟨b, i, none⟩) (Nat.lt_of_lt_of_le (hlt b rfl) hn₀)).trans (hcell i hi)) h0
set_option maxRecDepth 100000 in
theorem sall_any (ao : Option Addr) (len cap : Nat) (w : World) :
    Calls Tryd.prog 30 #[.slice ao len cap] w fun e w' => e = .returned (.func (.func 46) #[] #[.pointer (some ⟨w.heap.size, 0, none⟩)]) ∧ w' = w.alloc (.cells #[.slice ao len cap] 28) := by
  go_enter Tryd.func30, Tryd.ntmps30
  go_wp2
  go_ret
  exact ⟨rfl, rfl⟩
def rowOf (TT : Except (Nat × Nat) (List Tk)) : List Tk := match TT with | .ok ts => ts | .error _ => []
set_option maxRecDepth 100000 in
theorem xeach_any (s : ByteArray) (h : s.size ≤ 8192) (TT : Except (Nat × Nat) (List Tk)) (HT : Hid (tokens (bytesN s) = TT)) (w : World) (HL : Hid (Laid w)) :
    Calls Tryd.prog 19 #[.string s] w fun e w' => ∃ (Bs : Nat) (ao : Option Addr) (cap : Nat), e = .returned (.func (.func 46) #[] #[.pointer (some ⟨Bs, 0, none⟩)]) ∧ (w.heap.size ≤ Bs ∧ Bs < w'.heap.size) ∧ w'.cell? ⟨Bs, 0, none⟩ = some (.slice ao (rowOf TT).length cap) ∧ TokLies w' ao (rowOf TT) ∧ (∀ b, ao = some ⟨b, 0, none⟩ → w.heap.size ≤ b ∧ b < w'.heap.size) ∧ Below w.heap.size w w' := by
  match TT, HT with
  | .ok ts, HT =>
    obtain ⟨n, hn⟩ : ∃ n, Hid (ts.length = n) := ⟨_, rfl⟩
    go_enter Tryd.func19, Tryd.ntmps19
    go_wp2_with fail
    refine (tok_ok (by omega) ts HT.out HL.out).mono ?_
    rintro e w1 ⟨va, rfl, ownA, bel1⟩
    rw [hn.out] at ownA
    obtain ⟨aa, ca, rfl⟩ := own_form ownA
    have OA : Hid (w1.ownsRow w.heap.size 39 5 (.slice aa n ca) n (rowT ts)) := ownA
    have B1 : Hid (Below w.heap.size w w1) := bel1
    clear ownA bel1
    go_wp2_with fail
    refine (sall_any aa n ca w1).mono ?_
    rintro e w2 ⟨rfl, rfl⟩
    go_wp2
    go_ret
    have hA : Below w1.heap.size w1 (w1.alloc (.cells #[.slice aa n ca] 28)) := (Below.refl _ w1).alloc (Nat.le_refl _) _
    exact ⟨w1.heap.size, aa, ca, rfl, ⟨B1.out.size, by rw [World.size_alloc]; omega⟩, by show _ = some (Value.slice aa ts.length ca); rw [hn.out]; exact (Boxed.new w1 28 _).cell, lies_below (lies_own OA.out hn.out) hA (fun b hb => (own_block OA.out b hb).2), (fun b hb => by rw [World.size_alloc]; have := own_block OA.out b hb; omega), below_chain B1.out hA (Nat.le_refl _)⟩
  | .error (p, k), HT =>
    go_enter Tryd.func19, Tryd.ntmps19
    go_wp2_with fail
    refine (tok_no (by omega) p k HT.out HL.out).mono ?_
    rintro e w1 ⟨rfl, bel1⟩
    have B1 : Hid (Below w.heap.size w w1) := bel1
    clear bel1
    go_wp2_with fail
    refine (sall_any none 0 0 w1).mono ?_
    rintro e w2 ⟨rfl, rfl⟩
    go_wp2
    go_ret
    have hA : Below w1.heap.size w1 (w1.alloc (.cells #[.slice none 0 0] 28)) := (Below.refl _ w1).alloc (Nat.le_refl _) _
    exact ⟨w1.heap.size, none, 0, rfl, ⟨B1.out.size, by rw [World.size_alloc]; omega⟩, (Boxed.new w1 28 _).cell, .inl rfl, (fun b hb => by cases hb), below_chain B1.out hA (Nat.le_refl _)⟩
end Go.Proofs.YteeoakbafbnkhaaDoor

/-
  THE WALK of LexEach.
-/
namespace Go.Proofs.YteeoakbafbnkhaaDoor
open Go.RowKit Go.Shelf
set_option linter.unusedVariables false
attribute [local go_sem] Oper.semAt_some

theorem rtok_row {w : World} {s : ByteArray} (h : s.size ≤ 1048576) (TT : Except (Nat × Nat) (List Tk)) (ht : tokens (bytesN s) = TT) (ts : List Tk) (hts : rowOf TT = ts) (n : Nat) (hn : ts.length = n) :
    Calls Tryd.prog 16 #[.string s] w fun e w' => ∃ (aa : Option Addr) (ca : Nat) (p k : Int), e = .returned (.tuple #[.slice aa n ca, .int .i64 p, .int .i64 k]) ∧ TokLies w' aa ts ∧ (∀ b, aa = some ⟨b, 0, none⟩ → w.heap.size ≤ b ∧ b < w'.heap.size) ∧ Below w.heap.size w w' := by
  match TT, ht with
  | .ok ts', ht =>
    have e : ts' = ts := hts
    subst e
    refine (rtok_ok h _ ht).mono ?_
    rintro e w3 ⟨v3, rfl, own3, bel3⟩
    rw [hn] at own3
    obtain ⟨ao, cap, rfl⟩ := own_form own3
    exact ⟨ao, cap, 0, 0, rfl, lies_own own3 hn, fun b hb => own_block own3 b hb, bel3⟩
  | .error (p, k), ht =>
    have e : [] = ts := hts
    subst e
    have e : 0 = n := hn
    subst e
    refine (rtok_no h p k ht).mono ?_
    rintro e w3 ⟨rfl, bel3⟩
    exact ⟨none, 0, p, k, rfl, .inl rfl, (fun b hb => by cases hb), bel3⟩
/-- A function is not nil. -/
theorem nil_each (Bs : Nat) (w : World) : (binOp BinOp.eql 35 (Value.func (Fn.func 46) #[] #[Value.pointer (some ⟨Bs, 0, none⟩)]) Value.nilFunc).run Tryd.prog w = .ok (.bool false) w := by kernel_rfl
def TkAt (W : World) (B : Nat) (t : Tk) : Prop := W.heap[B]? = some (.cells #[.int .u8 (t.1 : Int), .string (strN t.2.1), .int .u64 (t.2.2.1 : Int), .int .i64 (t.2.2.2.1 : Int), .int .i64 (t.2.2.2.2 : Int)] 39 (0, 0))
theorem tk_own (Bx B : Nat) (t : Tk) : OwnFrom B (fun (_ : Unit) W => TkAt W Bx t) := by
  rintro _ X Y row hb hg hr
  have hb' : X.heap[Bx]? = _ := hb
  show Y.heap[Bx]? = _
  rw [hg.block Bx (Array.getElem?_eq_some_iff.1 hb').1 (fun e => by obtain ⟨_, o, ho, hc⟩ := hr Bx e.symm; rw [hb'] at ho; cases ho; cases hc)]
  exact hb'
/-- Between two rounds: how many have come; all that lay there ahead of the loop lies there. -/
def EI (w2 : World) (D0 : Nat) (pre : List (Nat × Tk)) (W : World) : Prop := Boxed W D0 3 (.int .i64 (pre.length : Int)) ∧ (Below D0 w2 W ∧ D0 + 1 ≤ W.heap.size)
/-- A round has left: what came was not what should. -/
def EX (ts : List Tk) (c : Code) (pre : List (Nat × Tk)) : Prop := c = .ret ∧ ∃ pre' x, pre = pre' ++ [x] ∧ x ≠ (pre'.length, ts.getD pre'.length default)
theorem ei_own (w2 : World) (D0 B : Nat) (h2 : D0 ≤ w2.heap.size) (hB : D0 ≤ B) : OwnFrom B (EI w2 D0) :=
  OwnFrom.and (Own.from (boxed_own _ _ (fun (pre : List (Nat × Tk)) => Value.int .i64 (pre.length : Int))) _) (OwnFrom.and (ownFrom_below h2 hB) (fun _ _ _ _ hs hgr _ => Nat.le_trans hs hgr.size))
theorem ex_no (ts : List Tk) (n : Nat) (c : Code) (pre : List (Nat × Tk)) (h : EX ts c pre) (hp : pre <+: numb ts n) : False := by
  obtain ⟨_, pre', x, rfl, hx⟩ := h
  obtain ⟨r, hr⟩ := hp
  apply hx
  have h1 : (numb ts n)[pre'.length]? = some x := by rw [← hr, List.append_assoc, List.getElem?_append_right (Nat.le_refl _), Nat.sub_self]; rfl
  unfold numb at h1
  rw [List.getElem?_map] at h1
  cases hq : (List.range n)[pre'.length]? with
  | none => rw [hq] at h1; cases h1
  | some q =>
    rw [hq] at h1
    have h2 : q = pre'.length := by
      obtain ⟨_, h3⟩ := List.getElem?_eq_some_iff.1 hq
      rw [List.getElem_range] at h3; exact h3.symm
    subst h2
    cases h1; rfl
def EI2 (W1 : World) (D0 D K : Nat) (pre : List (Nat × Tk)) (W : World) : Prop := Boxed W D0 3 (.int .i64 (pre.length : Int)) ∧ (Below D0 W1 W ∧ D0 + 1 ≤ W.heap.size) ∧ (W.heap[D]? = some (.deferred (some [])) ∧ pre.length ≤ K)
def EX2 (ts : List Tk) (W1 : World) (D0 D K : Nat) (c : Code) (pre : List (Nat × Tk)) (W : World) : Prop := EX ts c pre ∨ (c = .exit 2 ∧ Boxed W D0 3 (.int .i64 (K : Int)) ∧ Below D0 W1 W ∧ W.heap[D]? = some (.deferred (some [])))
theorem def_own {β : Type} (D B : Nat) (hD : D < B) : OwnFrom B (fun (_ : β) W => W.heap[D]? = some (.deferred (some []))) := fun _ X Y row hs hg hr =>
  (hg.block D (Array.getElem?_eq_some_iff.1 hs).1 (fun e => by have := (hr D e.symm).1; omega)).trans hs
theorem ei2_own (W1 : World) (D0 D K B : Nat) (h2 : D0 ≤ W1.heap.size) (hB : D0 ≤ B) (hD : D < B) : OwnFrom B (EI2 W1 D0 D K) :=
  OwnFrom.and (Own.from (boxed_own _ _ (fun (pre : List (Nat × Tk)) => Value.int .i64 (pre.length : Int))) _) (OwnFrom.and (OwnFrom.and (ownFrom_below h2 hB) (fun _ _ _ _ hs hgr _ => Nat.le_trans hs hgr.size)) (OwnFrom.and (def_own D B hD) (ownFrom_pure _ _)))
theorem ex2_own (ts : List Tk) (W1 : World) (D0 D K B : Nat) (h2 : D0 ≤ W1.heap.size) (hB : D0 ≤ B) (hD : D < B) (c : Code) : OwnFrom B (EX2 ts W1 D0 D K c) := by
  rintro s X Y row (h | ⟨h1, h2', h3, h4⟩) hg hr
  · exact .inl h
  · exact .inr ⟨h1, boxed_own _ _ (fun (_ : Unit) => Value.int .i64 (K : Int)) () X Y row h2' hg (fun r e => (hr r e).2), ownFrom_below (β := Unit) h2 hB () X Y row h3 hg hr, def_own (β := Unit) D B hD () X Y row h4 hg hr⟩
theorem lies_set {W : World} {ao : Option Addr} {ts : List Tk} (h : TokLies W ao ts) (x : Nat) (v : Value) (hne : ∀ b, ao = some ⟨b, 0, none⟩ → b ≠ x) (hlt : ∀ b, ao = some ⟨b, 0, none⟩ → b < W.heap.size) : TokLies (W.setCell ⟨x, 0, none⟩ v) ao ts :=
  lies_grown h (grownBy_setCell' W x v) (fun b hb e => hne b hb (by cases e; rfl)) hlt
theorem each_results {W : World} {g : Nat} {v : Value} {tmps : Array Value} (h4 : tmps.getD 4 undef = .pointer (some ⟨g + 1, 0, none⟩)) (c0 : Boxed W (g + 1) 4 v) : (results Tryd.f9 tmps).run Tryd.prog W = .ok v W := by
  have d0 := c0.cell
  have h4' : tmps[4]?.getD undef = .pointer (some ⟨g + 1, 0, none⟩) := by simpa using h4
  simp [results, Tryd.results9, h4', asAddr, loadVar, go_sem, d0]
theorem each_end {w w5 : World} {g D D2 : Nat} {tmps : Array Value} (hg : g = w.heap.size) (h4 : tmps.getD 4 undef = .pointer (some ⟨g + 1, 0, none⟩)) (hB : Below g w w5) (b4 : Boxed w5 (g + 1) 4 (.bool false)) (hD2 : w5.heap[D2]? = some (.deferred (some []))) (hD : w5.heap[D]? = some (.deferred (some []))) (hne : D < D2) (hgD : g + 1 < D) :
    LeavesInM Fence.wide 6 Tryd.prog Tryd.f9 tmps (fun e w' => e = .returned (.bool true) ∧ Below w.heap.size w w') [{ target := .collected D2, args := #[] }, { target := .collected D, args := #[] }] .returning (w5.setCell ⟨g + 1, 0, none⟩ (.bool true)) := by
  have k2 := (KeepsOthers.setCell w5 ⟨g + 1, 0, none⟩ (.bool true)).same D2 _ hD2 rfl
  have k1 := (KeepsOthers.setCell w5 ⟨g + 1, 0, none⟩ (.bool true)).same D _ hD rfl
  have hB6 : Below g w (w5.setCell ⟨g + 1, 0, none⟩ (.bool true)) := hB.setCell (p := ⟨g + 1, 0, none⟩) (by simp) _
  have hb4 := b4.set (.bool true)
  generalize w5.setCell ⟨g + 1, 0, none⟩ (.bool true) = W6 at *
  have hB7 : Below g w (W6.putObj D2 (.deferred none)) := hB6.trans (belowK_b (w := w) (by omega) W6 D2 _ _ (by omega) k2 rfl rfl)
  have k1' : (W6.putObj D2 (.deferred none)).heap[D]? = some (.deferred (some [])) := ((grownBy_putObj' W6 D2 _).block D (Array.getElem?_eq_some_iff.1 k1).1 (fun e => by cases e; omega)).trans k1
  have hb7 := hb4.kept (grownBy_putObj' W6 D2 (.deferred none)) (by intro e; cases e; omega)
  refine ⟨by simp, .inl ⟨_, _, rfl, run_takeDeferred k2, ?_⟩⟩
  refine ⟨by simp, .inl ⟨_, _, rfl, run_takeDeferred k1', ?_⟩⟩
  refine ⟨_, each_results h4 (hb7.kept (grownBy_putObj' _ D _) (by intro e; cases e; omega)), rfl, ?_⟩
  rw [← hg]
  exact hB7.trans (belowK_b (w := w) (by omega) _ D _ _ (by omega) k1' rfl rfl)
set_option maxRecDepth 100000 in
set_option maxHeartbeats 2000000 in
theorem lexEach_in (s : ByteArray) (stop : Int) (hstop : -9223372036854775808 ≤ stop ∧ stop ≤ 9223372036854775807) (hbig : ¬ 8192 < s.size) (TT : Except (Nat × Nat) (List Tk)) (HT : Hid (tokens (bytesN s) = TT)) (ts : List Tk) (hts : Hid (rowOf TT = ts)) (n : Nat) (hn : Hid (ts.length = n)) (hn2 : n ≤ 8192) (K : Nat) (hK : stop % ((n : Int) + 1) = (K : Int)) (hKn : K ≤ n) (w : World) (HL : Hid (Laid w)) :
    CallsIn Fence.wide 6 Tryd.prog 9 #[.string s, .int .i64 stop] w fun e w' => e = .returned (.bool true) ∧ Below w.heap.size w w' := by
  obtain ⟨g, hg⟩ : ∃ g, g = w.heap.size := ⟨_, rfl⟩
  have HG : Hid (g = w.heap.size) := hg
  have HB0 : Hid (Below w.heap.size w ((w.alloc (.cells #[.int .i64 stop] 3)).alloc (.cells #[.bool false] 4))) := ((Below.refl _ w).alloc (Nat.le_refl _) _).alloc (by simp) _
  refine callsIn_of_wp_marks Tryd.func9 rfl trivial ?_ rfl
  simp only [Tryd.ntmps9, List.size_toArray, List.length_cons, List.length_nil, Nat.reduceAdd, Nat.reduceSub, Array.replicate_succ, Array.replicate_zero, List.push_toArray, List.append_toArray, List.nil_append, List.cons_append]
  gi_wp2_with fail
  refine ⟨trivial, (callsIn_wide.2 (rtok_row (by omega) TT HT.out ts hts.out n hn.out)).mono ?_⟩
  rintro e w1 ⟨aa, ca, p, k, rfl, l1, o1, bel1⟩
  have HB1 : Hid (Below w.heap.size w (w1.alloc (.cells #[.slice aa n ca] 28))) := (below_chain HB0.out bel1 (Nat.le_refl _)).alloc (Nat.le_trans HB0.out.size bel1.size) _
  have b3 : Boxed w1 g 3 (.int .i64 stop) := by
    have := (Boxed.new w 3 (.int .i64 stop)).alloc (.cells #[.bool false] 4)
    rw [hg]; exact (bel1.block w.heap.size (by simp only [World.size_alloc]; omega)).trans this
  have b4 : Boxed w1 (g + 1) 4 (.bool false) := by
    have := Boxed.new (w.alloc (.cells #[.int .i64 stop] 3)) 4 (.bool false)
    rw [World.size_alloc] at this
    rw [hg]; exact (bel1.block (w.heap.size + 1) (by simp only [World.size_alloc]; omega)).trans this
  have HL1 : Hid (TokLies w1 aa ts ∧ (∀ b, aa = some ⟨b, 0, none⟩ → b < w1.heap.size)) := ⟨l1, fun b hb => (o1 b hb).2⟩
  have HLG : Hid (∀ b, aa = some ⟨b, 0, none⟩ → g + 1 < b) := fun b hb => by have := (o1 b hb).1; simp at this; omega
  have hgs : g + 2 ≤ w1.heap.size := by have := bel1.size; simp at this; omega
  clear l1 o1 bel1
  gi_wp2_with fail
  refine ⟨trivial, (callsIn_wide.2 (xeach_any s (by omega) TT HT _ (HL.out.on HB1.out))).mono ?_⟩
  rintro e w2 ⟨Bs, ao, cap, rfl, ⟨x0, x1⟩, x2, x3, x4, bel2⟩
  rw [hts.out] at x2 x3
  rw [hn.out] at x2
  have c3 : Boxed w2 g 3 (.int .i64 stop) := (bel2.block g (by simp; omega)).trans (b3.alloc _)
  have c4 : Boxed w2 (g + 1) 4 (.bool false) := (bel2.block (g + 1) (by simp; omega)).trans (b4.alloc _)
  obtain ⟨h5, hh5⟩ : ∃ h5, h5 = w1.heap.size := ⟨_, rfl⟩
  have c5 : Boxed w2 h5 28 (.slice aa n ca) := by rw [hh5]; exact (bel2.block w1.heap.size (by simp)).trans (Boxed.new w1 28 _)
  have HW2 : Hid (Below w.heap.size w w2) := below_chain HB1.out bel2 (Nat.le_refl _)
  have HLI : Hid (TokLies w2 aa ts ∧ (∀ b, aa = some ⟨b, 0, none⟩ → b < w2.heap.size)) :=
    ⟨lies_below (lies_below HL1.out.1 ((Below.refl _ w1).alloc (Nat.le_refl _) (.cells #[.slice aa n ca] 28)) HL1.out.2) bel2 (fun b hb => by have := HL1.out.2 b hb; simp; omega), fun b hb => by have := HL1.out.2 b hb; have := bel2.size; simp at this; omega⟩
  have hs2 : h5 + 1 ≤ w2.heap.size := by have := bel2.size; simp at this; omega
  obtain ⟨D0, hD0⟩ : ∃ D0, D0 = w2.heap.size := ⟨_, rfl⟩
  have HD0 : Hid (D0 = w2.heap.size) := hD0
  have HH5 : Hid (h5 = w1.heap.size) := hh5
  have hnil := nil_each Bs
  have hgd : g + 1 < D0 := by omega
  have hhd : h5 < D0 := by omega
  have hhg : g + 1 < h5 := by omega
  have hBd : Bs < D0 := by omega
  rw [← hD0] at HLI
  have hBg : g + 1 < Bs := by simp at x0; omega
  have HXG : Hid (∀ b, ao = some ⟨b, 0, none⟩ → g + 1 < b) := fun b hb => by have := (x4 b hb).1; simp at this; omega
  have hDs : D0 ≤ w2.heap.size := by omega
  have HX : Hid (w2.cell? ⟨Bs, 0, none⟩ = some (.slice ao n cap) ∧ TokLies w2 ao ts ∧ (∀ b, ao = some ⟨b, 0, none⟩ → b < D0)) := ⟨x2, x3, fun b hb => by have := (x4 b hb).2; omega⟩
  clear bel2 b3 b4 hg hh5 hD0 x0 x1 x2 x3 x4 hs2
  gi_wp2_with fail
  rw [← HG.out, ← HH5.out, ← HD0.out]
  obtain ⟨W0, hW0⟩ : ∃ W0, w2.alloc (.cells #[.int .i64 0] 3) = W0 := ⟨_, rfl⟩
  have hA0 : Below D0 w2 W0 := by rw [← hW0]; exact (Below.refl _ _).alloc hDs _
  have hat0 : Boxed W0 D0 3 (.int .i64 0) := by rw [← hW0, HD0.out]; exact Boxed.new w2 3 _
  have hs0 : W0.heap.size = D0 + 1 := by rw [← hW0, World.size_alloc, HD0.out]
  rw [hW0]
  clear hW0
  refine wpIn_rangeFunc_ownH (F := Fence.wide) rfl (by omega) (gf := 46) (lb := #[.pointer (some ⟨Bs, 0, none⟩)]) rfl trivial (enters_of Tryd.func46 (by kernel_rfl) rfl)
    (all_stops 5 (by omega) Bs D0 n cap ao ts hn.out hn2 W0 (by omega) (by omega) ((hA0.cell (p := ⟨Bs, 0, none⟩) hBd).trans HX.out.1) (lies_below HX.out.2.1 hA0 HX.out.2.2) HX.out.2.2) belowK_t (belowK_b (by omega)) (Below.refl _ _) (fun _ => rfl)
    (EI w2 D0) (fun c pre _ => EX ts c pre) (ei_own w2 D0 _ hDs (by omega)) (fun c => ownFrom_pure _ _)
    ⟨hat0, hA0, by omega⟩
    (fun x a' W => ∃ Bx, D0 < Bx ∧ TkAt W Bx x.2 ∧ a' = { tmps := #[.string s, .int .i64 stop, undef, .pointer (some ⟨g, 0, none⟩), .pointer (some ⟨g + 1, 0, none⟩), .pointer (some ⟨h5, 0, none⟩), .int .i64 p, .int .i64 k, .func (.func 46) #[] #[.pointer (some ⟨Bs, 0, none⟩)], .pointer (some ⟨D0, 0, none⟩), .int .i64 (x.1 : Int), .pointer (some ⟨Bx, 0, none⟩), undef, undef, .string s, .int .i64 (s.size : Int), .bool (decide (8192 < (s.size : Int))), .tuple #[.slice aa n ca, .int .i64 p, .int .i64 k], .string s, .tuple #[.slice aa n ca, .int .i64 p, .int .i64 k], .slice aa n ca, .int .i64 p, .int .i64 k, .string s, .func (.func 46) #[] #[.pointer (some ⟨Bs, 0, none⟩)], .func (.func 46) #[] #[.pointer (some ⟨Bs, 0, none⟩)], .bool false, .func (.func 46) #[] #[.pointer (some ⟨Bs, 0, none⟩)], .int .i64 (x.1 : Int), tkV x.2, undef, undef, undef, undef, undef, undef, undef, undef, undef, undef, undef, undef, undef, undef, undef, undef, undef, undef, undef, undef, undef, undef, undef, undef, undef, undef, undef, undef, undef, undef, undef, undef, undef, undef, undef, undef, undef, undef, undef, undef, undef, undef, undef, undef, undef, undef, undef, undef, undef, undef, undef, undef, undef], defers := [] })
    (fun x a' _ X Y row hs hg hr => by obtain ⟨Bx, h1, h2, h3⟩ := hs; exact ⟨Bx, h1, tk_own Bx _ x.2 () X Y row h2 hg hr, h3⟩)
    ?assign ?body ?done ?stop
  case assign =>
    rintro l pre ⟨i, kd, tx, nn, A, E⟩ W K' hI hK
    have hsh : tkV (kd, tx, nn, A, E) = .agg #[.int .u8 (kd : Int), .string (strN tx), .int .u64 (nn : Int), .int .i64 (A : Int), .int .i64 (E : Int)] := rfl
    have HK : Hid _ := hK
    have hgW : D0 < W.heap.size := hI.2.2
    clear hK
    simp only
    rw [hsh]
    gi_wp2
    rw [← hsh]
    exact HK.out _ _ ((KeepsOthers.alloc _ _).from _) ((Below.refl D0 W).alloc (by omega) _) ((ei_own w2 D0 _ hDs (Nat.le_refl _)).alloc _ hI) ⟨W.heap.size, hgW, heap_alloc_new W _, rfl⟩
  case body =>
    rintro l pre ⟨i, kd, tx, nn, A, E⟩ a' W hl ⟨r, hr⟩ ⟨hat, hbel, hsz⟩ ⟨Bx, hBx, hfb, rfl⟩ hlt
    obtain ⟨m, hm⟩ : ∃ m, Hid (pre.length = m) := ⟨_, rfl⟩
    rw [hm.out] at hat hlt
    have HB : Hid (Below D0 w2 W) := hbel
    have e3 := hat.cell
    have e3f := hat.frozen
    have HAT : Hid (Boxed W D0 3 (.int .i64 (m : Int))) := hat
    have e4B : Boxed W (g + 1) 4 (.bool false) := (hbel.block (g + 1) hgd).trans c4
    have e4 := e4B.cell
    have e4f := e4B.frozen
    have e5 := (show Boxed W h5 28 (.slice aa n ca) from (hbel.block h5 hhd).trans c5).cell
    rcases HLI.out.1 with q | ⟨b, rfl, hcell⟩
    · exfalso; have := hn.out; rw [q] at this; simp at this; omega
    have hb := HLI.out.2 b rfl
    obtain ⟨a0, a1, a2, a3, a4⟩ := lies_cells hn.out hcell hlt
    rw [← hbel.cell (p := ⟨b, m * 5, none⟩) hb] at a0
    rw [← hbel.cell (p := ⟨b, m * 5 + 1, none⟩) hb] at a1
    rw [← hbel.cell (p := ⟨b, m * 5 + 2, none⟩) hb] at a2
    rw [← hbel.cell (p := ⟨b, m * 5 + 3, none⟩) hb] at a3
    rw [← hbel.cell (p := ⟨b, m * 5 + 4, none⟩) hb] at a4
    obtain ⟨⟨kd', tx', nn', A', E'⟩, hq⟩ : ∃ t, Hid (ts.getD m default = t) := ⟨_, rfl⟩
    rw [hq.out] at a0 a1 a2 a3 a4
    simp only at a0 a1 a2 a3 a4
    have hfb' : W.heap[Bx]? = some (.cells #[.int .u8 (kd : Int), .string (strN tx), .int .u64 (nn : Int), .int .i64 (A : Int), .int .i64 (E : Int)] 39 (0, 0)) := hfb
    have x0 : W.cell? ⟨Bx, 0, none⟩ = some (.int .u8 (kd : Int)) := cell_of_row _ _ 0 _ _ _ hfb'
    have x1 : W.cell? ⟨Bx, 1, none⟩ = some (.string (strN tx)) := cell_of_row _ _ 1 _ _ _ hfb'
    have x2 : W.cell? ⟨Bx, 2, none⟩ = some (.int .u64 (nn : Int)) := cell_of_row _ _ 2 _ _ _ hfb'
    have x3 : W.cell? ⟨Bx, 3, none⟩ = some (.int .i64 (A : Int)) := cell_of_row _ _ 3 _ _ _ hfb'
    have x4 : W.cell? ⟨Bx, 4, none⟩ = some (.int .i64 (E : Int)) := cell_of_row _ _ 4 _ _ _ hfb'
    have d1 : decide ((n : Int) ≤ (m : Int)) = false := by simp; omega
    have d1n : decide (n ≤ m) = false := by simp; omega
    have k1 : (0 : Int) ≤ (m : Int) := by omega
    have k2 : (m : Int) < (n : Int) := by omega
    clear hat hbel hfb hfb' hcell e4B hlt
    obtain ⟨X, hX⟩ : ∃ X, Hid (strN tx = X) := ⟨_, rfl⟩
    obtain ⟨X', hX'⟩ : ∃ X, Hid (strN tx' = X) := ⟨_, rfl⟩
    rw [hX.out] at x1
    rw [hX'.out] at a1
    have HT1 : Hid (tkV (kd, tx, nn, A, E) = .agg #[.int .u8 (kd : Int), .string X, .int .u64 (nn : Int), .int .i64 (A : Int), .int .i64 (E : Int)]) := by unfold Hid tkV; rw [hX.out]
    simp only
    rw [HT1.out]
    by_cases him : i = m
    · subst him
      have d2 : ((i : Int) != (i : Int)) = false := by simp
      by_cases h0 : kd = kd'
      · subst h0
        by_cases h1 : X = X'
        · subst h1
          by_cases h2 : nn = nn'
          · subst h2
            by_cases h3 : A = A'
            · subst h3
              by_cases h4 : E = E'
              · subst h4
                gi_wp2_with fail
                refine wpIn_region_quiet_round rfl (by kernel_rfl) (by kernel_rfl) (by kernel_rfl) ?_
                repeat (gi_big_quiet_step (fail))
                refine wpQuietIn_nil ?_
                rintro _ ⟨nq, rfl⟩
                gi_wp2
                refine ⟨((KeepsOthers.setCell W _ _).trans (keeps_drewN _ _)).from _, below_drewN ((Below.refl D0 W).setCell (p := ⟨D0, 0, none⟩) (Nat.le_refl _) _) _, ?_, below_drewN (HB.out.setCell (p := ⟨D0, 0, none⟩) (Nat.le_refl _) _) _, ?_⟩
                · have hbx : Boxed (W.drewN nq) D0 3 (.int .i64 (i : Int)) := HAT.out
                  have hl2 : (((pre ++ [(i, kd, tx, nn, A, E)]).length : Nat) : Int) = (i : Int) + 1 := by rw [List.length_append, hm.out]; simp
                  rw [hl2]; exact hbx.set _
                · exact Nat.le_trans (show D0 + 1 ≤ (W.drewN nq).heap.size from hsz) (KeepsOthers.setCell (W.drewN nq) ⟨D0, 0, none⟩ _).size
              · have q : ((E : Int) == (E' : Int)) = false := by simp; omega
                have qn : (E == E') = false := by simp; omega
                gi_wp2_with fail
                refine wpIn_region_quiet_round rfl (by kernel_rfl) (by kernel_rfl) (by kernel_rfl) ?_
                repeat (gi_big_quiet_step (fail))
                refine wpQuietIn_nil ?_
                rintro _ ⟨nq, rfl⟩
                gi_wp2
                exact ⟨((KeepsOthers.setCell W _ _).trans (keeps_drewN _ _)).from _, rfl, pre, _, rfl, by rw [hm.out, hq.out]; intro e; simp only [Prod.mk.injEq] at e; omega⟩
            · have q : ((A : Int) == (A' : Int)) = false := by simp; omega
              have qn : (A == A') = false := by simp; omega
              gi_wp2_with fail
              refine wpIn_region_quiet_round rfl (by kernel_rfl) (by kernel_rfl) (by kernel_rfl) ?_
              repeat (gi_big_quiet_step (fail))
              refine wpQuietIn_nil ?_
              rintro _ ⟨nq, rfl⟩
              gi_wp2
              exact ⟨((KeepsOthers.setCell W _ _).trans (keeps_drewN _ _)).from _, rfl, pre, _, rfl, by rw [hm.out, hq.out]; intro e; simp only [Prod.mk.injEq] at e; omega⟩
          · have q : ((nn : Int) == (nn' : Int)) = false := by simp; omega
            have qn : (nn == nn') = false := by simp; omega
            gi_wp2_with fail
            refine wpIn_region_quiet_round rfl (by kernel_rfl) (by kernel_rfl) (by kernel_rfl) ?_
            repeat (gi_big_quiet_step (fail))
            refine wpQuietIn_nil ?_
            rintro _ ⟨nq, rfl⟩
            gi_wp2
            exact ⟨((KeepsOthers.setCell W _ _).trans (keeps_drewN _ _)).from _, rfl, pre, _, rfl, by rw [hm.out, hq.out]; intro e; simp only [Prod.mk.injEq] at e; omega⟩
        · have q : (X.toList == X'.toList) = false := by rw [bytes_same, decide_eq_false_iff_not]; intro e; exact h1 (by rw [← strN_bytesN X, ← strN_bytesN X', e])
          gi_wp2_with fail
          refine wpIn_region_quiet_round rfl (by kernel_rfl) (by kernel_rfl) (by kernel_rfl) ?_
          repeat (gi_big_quiet_step (fail))
          refine wpQuietIn_nil ?_
          rintro _ ⟨nq, rfl⟩
          gi_wp2
          exact ⟨((KeepsOthers.setCell W _ _).trans (keeps_drewN _ _)).from _, rfl, pre, _, rfl, by rw [hm.out, hq.out]; intro e; simp only [Prod.mk.injEq] at e; exact h1 (by rw [← hX.out, ← hX'.out, e.2.2.1])⟩
      · have q : ((kd : Int) == (kd' : Int)) = false := by simp; omega
        have qn : (kd == kd') = false := by simp; omega
        gi_wp2_with fail
        refine wpIn_region_quiet_round rfl (by kernel_rfl) (by kernel_rfl) (by kernel_rfl) ?_
        repeat (gi_big_quiet_step (fail))
        refine wpQuietIn_nil ?_
        rintro _ ⟨nq, rfl⟩
        gi_wp2
        exact ⟨((KeepsOthers.setCell W _ _).trans (keeps_drewN _ _)).from _, rfl, pre, _, rfl, by rw [hm.out, hq.out]; intro e; simp only [Prod.mk.injEq] at e; omega⟩
    · have d2 : ((i : Int) != (m : Int)) = true := by simp; omega
      have d2n : (i != m) = true := by simp; omega
      have d2e : (i == m) = false := by simp; omega
      gi_wp2_with fail
      refine wpIn_region_quiet_round rfl (by kernel_rfl) (by kernel_rfl) (by kernel_rfl) ?_
      repeat (gi_big_quiet_step (fail))
      refine wpQuietIn_nil ?_
      rintro _ ⟨nq, rfl⟩
      gi_wp2
      exact ⟨((KeepsOthers.setCell W _ _).trans (keeps_drewN _ _)).from _, rfl, pre, _, rfl, by rw [hm.out, hq.out]; intro e; simp only [Prod.mk.injEq] at e; omega⟩
  case done =>
    rintro D ys W hD rfl ⟨hat, hbel, hsz⟩ hKD
    rw [numb_length] at hat
    have e3 := hat.cell
    have e3f := hat.frozen
    have f3 : Boxed W g 3 (.int .i64 stop) := (hbel.block g (by omega)).trans c3
    have f4 : Boxed W (g + 1) 4 (.bool false) := (hbel.block (g + 1) hgd).trans c4
    have f5 : Boxed W h5 28 (.slice aa n ca) := (hbel.block h5 hhd).trans c5
    have f3c := f3.cell
    have f3f := f3.frozen
    have f4c := f4.cell
    have f4f := f4.frozen
    have f5c := f5.cell
    have HAT : Hid (Boxed W D0 3 (.int .i64 (n : Int))) := hat
    have HB : Hid (Below D0 w2 W) := hbel
    clear hat hbel
    gi_wp2_with fail
    refine ⟨trivial, (callsIn_wide.2 (pick_as stop ((n : Int) + 1) K (by omega) (by omega) hK hstop _)).mono ?_⟩
    rintro e w4 ⟨rfl, rfl⟩
    gi_wp2_with fail
    have hDW := (Array.getElem?_eq_some_iff.1 hKD).1
    obtain ⟨W1, hW1⟩ : ∃ W1, (W.setCell ⟨g, 0, none⟩ (.int .i64 (K : Int))).setCell ⟨D0, 0, none⟩ (.int .i64 0) = W1 := ⟨_, rfl⟩
    have q3 : Boxed W1 g 3 (.int .i64 (K : Int)) := by rw [← hW1]; exact (f3.set _).other (by omega) _
    have q4 : Boxed W1 (g + 1) 4 (.bool false) := by rw [← hW1]; exact (f4.other (by omega) _).other (by omega) _
    have q5 : Boxed W1 h5 28 (.slice aa n ca) := by rw [← hW1]; exact (f5.other (by omega) _).other (by omega) _
    have q9 : Boxed W1 D0 3 (.int .i64 0) := by rw [← hW1]; exact (HAT.out.other (by omega) _).set _
    have hsW : W.heap.size ≤ W1.heap.size := by rw [← hW1]; exact Nat.le_trans (KeepsOthers.setCell W ⟨g, 0, none⟩ _).size (KeepsOthers.setCell _ ⟨D0, 0, none⟩ _).size
    have hKD1 : W1.heap[D]? = some (.deferred (some [])) := by rw [← hW1]; exact (KeepsOthers.setCell _ ⟨D0, 0, none⟩ _).same D _ ((KeepsOthers.setCell W ⟨g, 0, none⟩ _).same D _ hKD rfl) rfl
    have HLI1 : Hid (TokLies W1 aa ts ∧ (∀ b, aa = some ⟨b, 0, none⟩ → b < D0)) := by
      rw [← hW1]
      refine ⟨lies_set (lies_set (lies_below HLI.out.1 HB.out HLI.out.2) g _ (fun b hb => by have := HLG.out b hb; omega) (fun b hb => by have := HLI.out.2 b hb; omega)) D0 _ (fun b hb => by have := HLI.out.2 b hb; omega) (fun b hb => ?_), HLI.out.2⟩
      exact Nat.lt_of_lt_of_le (show b < W.heap.size by have := HLI.out.2 b hb; omega) (KeepsOthers.setCell W ⟨g, 0, none⟩ _).size
    have HX1 : Hid (W1.cell? ⟨Bs, 0, none⟩ = some (.slice ao n cap) ∧ TokLies W1 ao ts) := by
      have hc0 := (HB.out.cell (p := ⟨Bs, 0, none⟩) hBd).trans HX.out.1
      rw [← hW1]
      refine ⟨((grownBy_setCell' _ D0 _).cell_far ⟨Bs, 0, none⟩ (Nat.lt_of_lt_of_le (show Bs < W.heap.size by omega) (KeepsOthers.setCell W ⟨g, 0, none⟩ _).size) (fun e => by have e' : Bs = D0 := Option.some.inj e; omega)).trans (((grownBy_setCell' W g _).cell_far ⟨Bs, 0, none⟩ (show Bs < W.heap.size by omega) (fun e => by have e' : Bs = g := Option.some.inj e; omega)).trans hc0), ?_⟩
      refine lies_set (lies_set (lies_below HX.out.2.1 HB.out HX.out.2.2) g _ (fun b hb => by have := HXG.out b hb; omega) (fun b hb => by have := HX.out.2.2 b hb; omega)) D0 _ (fun b hb => by have := HX.out.2.2 b hb; omega) (fun b hb => ?_)
      exact Nat.lt_of_lt_of_le (show b < W.heap.size by have := HX.out.2.2 b hb; omega) (KeepsOthers.setCell W ⟨g, 0, none⟩ _).size
    have HBW : Hid (Below g w W1) := by
      unfold Hid
      rw [← hW1]
      have h1 : Below g w W := by rw [HG.out]; exact HW2.out.trans (HB.out.mono (by have := HG.out; omega))
      exact (h1.setCell (p := ⟨g, 0, none⟩) (Nat.le_refl _) _).setCell (p := ⟨D0, 0, none⟩) (by show g ≤ D0; omega) _
    rw [hW1]
    clear hW1 f3 f4 f5 f3c f3f f4c f4f f5c e3 e3f HAT HB hKD
    refine wpIn_rangeFunc_ownH (F := Fence.wide) rfl (by omega) (gf := 46) (lb := #[.pointer (some ⟨Bs, 0, none⟩)]) rfl trivial (enters_of Tryd.func46 (by kernel_rfl) rfl)
      (all_stops 5 (by omega) Bs D0 n cap ao ts hn.out hn2 W1 (by omega) (by omega) HX1.out.1 HX1.out.2 HX.out.2.2) belowK_t (belowK_b (by omega)) (Below.refl _ _) (fun _ => rfl)
      (EI2 W1 D0 D K) (EX2 ts W1 D0 D K) (ei2_own W1 D0 D K _ (by omega) (by omega) (by omega)) (ex2_own ts W1 D0 D K _ (by omega) (by omega) (by omega))
      ⟨q9, ⟨Below.refl _ _, by omega⟩, hKD1, by simp⟩
      (fun x a' W => ∃ Bx, D0 < Bx ∧ TkAt W Bx x.2 ∧ a' = { tmps := #[.string s, .int .i64 stop, undef, .pointer (some ⟨g, 0, none⟩), .pointer (some ⟨g + 1, 0, none⟩), .pointer (some ⟨h5, 0, none⟩), .int .i64 p, .int .i64 k, .func (.func 46) #[] #[.pointer (some ⟨Bs, 0, none⟩)], .pointer (some ⟨D0, 0, none⟩), undef, undef, .int .i64 (x.1 : Int), .pointer (some ⟨Bx, 0, none⟩), .string s, .int .i64 (s.size : Int), .bool (decide (8192 < (s.size : Int))), .tuple #[.slice aa n ca, .int .i64 p, .int .i64 k], .string s, .tuple #[.slice aa n ca, .int .i64 p, .int .i64 k], .slice aa n ca, .int .i64 p, .int .i64 k, .string s, .func (.func 46) #[] #[.pointer (some ⟨Bs, 0, none⟩)], .func (.func 46) #[] #[.pointer (some ⟨Bs, 0, none⟩)], .bool false, .func (.func 46) #[] #[.pointer (some ⟨Bs, 0, none⟩)], undef, undef, undef, undef, undef, undef, undef, undef, undef, undef, undef, undef, undef, undef, undef, undef, undef, undef, undef, undef, undef, .int .i64 (n : Int), .slice aa n ca, .int .i64 (n : Int), .bool false, .int .i64 stop, .slice aa n ca, .int .i64 (n : Int), .int .i64 ((n : Int) + 1), .int .i64 (K : Int), .func (.func 46) #[] #[.pointer (some ⟨Bs, 0, none⟩)], .int .i64 (x.1 : Int), tkV x.2, undef, undef, undef, undef, undef, undef, undef, undef, undef, undef, undef, undef, undef, undef, undef, undef, undef, undef, undef, undef, undef, undef], defers := [] })
      (fun x a' _ X Y row hs hg hr => by obtain ⟨Bx, h1, h2, h3⟩ := hs; exact ⟨Bx, h1, tk_own Bx _ x.2 () X Y row h2 hg hr, h3⟩)
      ?assign2 ?body2 ?done2 ?stop2
    case assign2 =>
      rintro l pre ⟨i, kd, tx, nn, A, E⟩ W K' hI hK
      have hsh : tkV (kd, tx, nn, A, E) = .agg #[.int .u8 (kd : Int), .string (strN tx), .int .u64 (nn : Int), .int .i64 (A : Int), .int .i64 (E : Int)] := rfl
      have HK : Hid _ := hK
      have hgW : D0 < W.heap.size := hI.2.1.2
      clear hK
      simp only
      rw [hsh]
      gi_wp2
      rw [← hsh]
      exact HK.out _ _ ((KeepsOthers.alloc _ _).from _) ((Below.refl D0 W).alloc (by omega) _) ((ei2_own W1 D0 D K W1.heap.size (by omega) (by omega) (by omega)).alloc _ hI) ⟨W.heap.size, hgW, heap_alloc_new W _, rfl⟩
    case body2 =>
      rintro l pre ⟨i, kd, tx, nn, A, E⟩ a' W hl ⟨r, hr⟩ ⟨hat, ⟨hbel, hsz⟩, hdd, hle⟩ ⟨Bx, hBx, hfb, rfl⟩ hlt
      obtain ⟨m, hm⟩ : ∃ m, Hid (pre.length = m) := ⟨_, rfl⟩
      rw [hm.out] at hat hlt
      have HB : Hid (Below D0 W1 W) := hbel
      have e3 := hat.cell
      have e3f := hat.frozen
      have HDD : Hid (W.heap[D]? = some (.deferred (some []))) := hdd
      have HAT : Hid (Boxed W D0 3 (.int .i64 (m : Int))) := hat
      have e4B : Boxed W (g + 1) 4 (.bool false) := (hbel.block (g + 1) hgd).trans q4
      have e4 := e4B.cell
      have e4f := e4B.frozen
      have e5 := (show Boxed W h5 28 (.slice aa n ca) from (hbel.block h5 hhd).trans q5).cell
      rcases HLI1.out.1 with q | ⟨b, rfl, hcell⟩
      · exfalso; have := hn.out; rw [q] at this; simp at this; omega
      have hb := HLI1.out.2 b rfl
      obtain ⟨a0, a1, a2, a3, a4⟩ := lies_cells hn.out hcell hlt
      rw [← hbel.cell (p := ⟨b, m * 5, none⟩) hb] at a0
      rw [← hbel.cell (p := ⟨b, m * 5 + 1, none⟩) hb] at a1
      rw [← hbel.cell (p := ⟨b, m * 5 + 2, none⟩) hb] at a2
      rw [← hbel.cell (p := ⟨b, m * 5 + 3, none⟩) hb] at a3
      rw [← hbel.cell (p := ⟨b, m * 5 + 4, none⟩) hb] at a4
      obtain ⟨⟨kd', tx', nn', A', E'⟩, hq⟩ : ∃ t, Hid (ts.getD m default = t) := ⟨_, rfl⟩
      rw [hq.out] at a0 a1 a2 a3 a4
      simp only at a0 a1 a2 a3 a4
      have hfb' : W.heap[Bx]? = some (.cells #[.int .u8 (kd : Int), .string (strN tx), .int .u64 (nn : Int), .int .i64 (A : Int), .int .i64 (E : Int)] 39 (0, 0)) := hfb
      have x0 : W.cell? ⟨Bx, 0, none⟩ = some (.int .u8 (kd : Int)) := cell_of_row _ _ 0 _ _ _ hfb'
      have x1 : W.cell? ⟨Bx, 1, none⟩ = some (.string (strN tx)) := cell_of_row _ _ 1 _ _ _ hfb'
      have x2 : W.cell? ⟨Bx, 2, none⟩ = some (.int .u64 (nn : Int)) := cell_of_row _ _ 2 _ _ _ hfb'
      have x3 : W.cell? ⟨Bx, 3, none⟩ = some (.int .i64 (A : Int)) := cell_of_row _ _ 3 _ _ _ hfb'
      have x4 : W.cell? ⟨Bx, 4, none⟩ = some (.int .i64 (E : Int)) := cell_of_row _ _ 4 _ _ _ hfb'
      have d1 : decide ((n : Int) ≤ (m : Int)) = false := by simp; omega
      have d1n : decide (n ≤ m) = false := by simp; omega
      have k1 : (0 : Int) ≤ (m : Int) := by omega
      have k2 : (m : Int) < (n : Int) := by omega
      have e2 := (show Boxed W g 3 (.int .i64 (K : Int)) from (hbel.block g (by omega)).trans q3).cell
      rw [hm.out] at hle
      clear hat hbel hfb hfb' hcell e4B hlt
      by_cases hmK : m < K
      case neg =>
        have hmK2 : m = K := by omega
        subst hmK2
        simp only
        rw [show tkV (kd, tx, nn, A, E) = .agg #[.int .u8 (kd : Int), .string (strN tx), .int .u64 (nn : Int), .int .i64 (A : Int), .int .i64 (E : Int)] from rfl]
        gi_wp2
        exact ⟨KeepsFrom.refl _ _, .inr ⟨rfl, HAT.out, HB.out, HDD.out⟩⟩
      have hmK1 : (m : Int) < (K : Int) := by omega
      obtain ⟨X, hX⟩ : ∃ X, Hid (strN tx = X) := ⟨_, rfl⟩
      obtain ⟨X', hX'⟩ : ∃ X, Hid (strN tx' = X) := ⟨_, rfl⟩
      rw [hX.out] at x1
      rw [hX'.out] at a1
      have HT1 : Hid (tkV (kd, tx, nn, A, E) = .agg #[.int .u8 (kd : Int), .string X, .int .u64 (nn : Int), .int .i64 (A : Int), .int .i64 (E : Int)]) := by unfold Hid tkV; rw [hX.out]
      simp only
      rw [HT1.out]
      by_cases him : i = m
      · subst him
        have d2 : ((i : Int) != (i : Int)) = false := by simp
        by_cases h0 : kd = kd'
        · subst h0
          by_cases h1 : X = X'
          · subst h1
            by_cases h2 : nn = nn'
            · subst h2
              by_cases h3 : A = A'
              · subst h3
                by_cases h4 : E = E'
                · subst h4
                  gi_wp2_with fail
                  refine wpIn_region_quiet_round rfl (by kernel_rfl) (by kernel_rfl) (by kernel_rfl) ?_
                  repeat (gi_big_quiet_step (fail))
                  refine wpQuietIn_nil ?_
                  rintro _ ⟨nq, rfl⟩
                  gi_wp2
                  refine ⟨((KeepsOthers.setCell W _ _).trans (keeps_drewN _ _)).from _, below_drewN ((Below.refl D0 W).setCell (p := ⟨D0, 0, none⟩) (Nat.le_refl _) _) _, ?_, ⟨below_drewN (HB.out.setCell (p := ⟨D0, 0, none⟩) (Nat.le_refl _) _) _, ?_⟩, (KeepsOthers.setCell (W.drewN nq) ⟨D0, 0, none⟩ _).same D _ HDD.out rfl, by rw [List.length_append, hm.out]; simp; omega⟩
                  · have hbx : Boxed (W.drewN nq) D0 3 (.int .i64 (i : Int)) := HAT.out
                    have hl2 : (((pre ++ [(i, kd, tx, nn, A, E)]).length : Nat) : Int) = (i : Int) + 1 := by rw [List.length_append, hm.out]; simp
                    rw [hl2]; exact hbx.set _
                  · exact Nat.le_trans (show D0 + 1 ≤ (W.drewN nq).heap.size from hsz) (KeepsOthers.setCell (W.drewN nq) ⟨D0, 0, none⟩ _).size
                · have q : ((E : Int) == (E' : Int)) = false := by simp; omega
                  have qn : (E == E') = false := by simp; omega
                  gi_wp2_with fail
                  refine wpIn_region_quiet_round rfl (by kernel_rfl) (by kernel_rfl) (by kernel_rfl) ?_
                  repeat (gi_big_quiet_step (fail))
                  refine wpQuietIn_nil ?_
                  rintro _ ⟨nq, rfl⟩
                  gi_wp2
                  exact ⟨((KeepsOthers.setCell W _ _).trans (keeps_drewN _ _)).from _, .inl ⟨rfl, pre, _, rfl, by rw [hm.out, hq.out]; intro e; simp only [Prod.mk.injEq] at e; omega⟩⟩
              · have q : ((A : Int) == (A' : Int)) = false := by simp; omega
                have qn : (A == A') = false := by simp; omega
                gi_wp2_with fail
                refine wpIn_region_quiet_round rfl (by kernel_rfl) (by kernel_rfl) (by kernel_rfl) ?_
                repeat (gi_big_quiet_step (fail))
                refine wpQuietIn_nil ?_
                rintro _ ⟨nq, rfl⟩
                gi_wp2
                exact ⟨((KeepsOthers.setCell W _ _).trans (keeps_drewN _ _)).from _, .inl ⟨rfl, pre, _, rfl, by rw [hm.out, hq.out]; intro e; simp only [Prod.mk.injEq] at e; omega⟩⟩
            · have q : ((nn : Int) == (nn' : Int)) = false := by simp; omega
              have qn : (nn == nn') = false := by simp; omega
              gi_wp2_with fail
              refine wpIn_region_quiet_round rfl (by kernel_rfl) (by kernel_rfl) (by kernel_rfl) ?_
              repeat (gi_big_quiet_step (fail))
              refine wpQuietIn_nil ?_
              rintro _ ⟨nq, rfl⟩
              gi_wp2
              exact ⟨((KeepsOthers.setCell W _ _).trans (keeps_drewN _ _)).from _, .inl ⟨rfl, pre, _, rfl, by rw [hm.out, hq.out]; intro e; simp only [Prod.mk.injEq] at e; omega⟩⟩
          · have q : (X.toList == X'.toList) = false := by rw [bytes_same, decide_eq_false_iff_not]; intro e; exact h1 (by rw [← strN_bytesN X, ← strN_bytesN X', e])
            gi_wp2_with fail
            refine wpIn_region_quiet_round rfl (by kernel_rfl) (by kernel_rfl) (by kernel_rfl) ?_
            repeat (gi_big_quiet_step (fail))
            refine wpQuietIn_nil ?_
            rintro _ ⟨nq, rfl⟩
            gi_wp2
            exact ⟨((KeepsOthers.setCell W _ _).trans (keeps_drewN _ _)).from _, .inl ⟨rfl, pre, _, rfl, by rw [hm.out, hq.out]; intro e; simp only [Prod.mk.injEq] at e; exact h1 (by rw [← hX.out, ← hX'.out, e.2.2.1])⟩⟩
        · have q : ((kd : Int) == (kd' : Int)) = false := by simp; omega
          have qn : (kd == kd') = false := by simp; omega
          gi_wp2_with fail
          refine wpIn_region_quiet_round rfl (by kernel_rfl) (by kernel_rfl) (by kernel_rfl) ?_
          repeat (gi_big_quiet_step (fail))
          refine wpQuietIn_nil ?_
          rintro _ ⟨nq, rfl⟩
          gi_wp2
          exact ⟨((KeepsOthers.setCell W _ _).trans (keeps_drewN _ _)).from _, .inl ⟨rfl, pre, _, rfl, by rw [hm.out, hq.out]; intro e; simp only [Prod.mk.injEq] at e; omega⟩⟩
      · have d2 : ((i : Int) != (m : Int)) = true := by simp; omega
        have d2n : (i != m) = true := by simp; omega
        have d2e : (i == m) = false := by simp; omega
        gi_wp2_with fail
        refine wpIn_region_quiet_round rfl (by kernel_rfl) (by kernel_rfl) (by kernel_rfl) ?_
        repeat (gi_big_quiet_step (fail))
        refine wpQuietIn_nil ?_
        rintro _ ⟨nq, rfl⟩
        gi_wp2
        exact ⟨((KeepsOthers.setCell W _ _).trans (keeps_drewN _ _)).from _, .inl ⟨rfl, pre, _, rfl, by rw [hm.out, hq.out]; intro e; simp only [Prod.mk.injEq] at e; omega⟩⟩
    case done2 =>
      rintro D2 ys W' hD2 rfl ⟨hat, ⟨hbel, hsz⟩, hdd, hle⟩ hK2
      rw [numb_length] at hat hle
      obtain rfl : K = n := by omega
      have e9 := hat.cell
      have e2 := (show Boxed W' g 3 (.int .i64 (K : Int)) from (hbel.block g (by omega)).trans q3).cell
      have b4 : Boxed W' (g + 1) 4 (.bool false) := (hbel.block (g + 1) hgd).trans q4
      have hBW : Below g w W' := HBW.out.trans (hbel.mono (by omega))
      have HBW' : Hid (Below g w W') := hBW
      have HD4 : Hid (W'.heap[D]? = some (.deferred (some [])) ∧ W'.heap[D2]? = some (.deferred (some [])) ∧ D < D2 ∧ g + 1 < W'.heap.size ∧ g + 1 < D) := ⟨hdd, hK2, by omega, by have := hsz; omega, by omega⟩
      gi_wp2_with fail
      refine ⟨trivial, (callsIn_wide.2 (works_any _ (HL.out.on (by rw [← HG.out]; exact HBW'.out)))).mono ?_⟩
      rintro e w5 ⟨rfl, bel5⟩
      have b45 : Boxed w5 (g + 1) 4 (.bool false) := (bel5.block (g + 1) HD4.out.2.2.2.1).trans b4
      have b45c := b45.cell
      have b45f := b45.frozen
      gi_wp2
      exact each_end HG.out rfl (HBW'.out.trans (bel5.mono (Nat.le_trans (by rw [HG.out]; exact Nat.le_refl _) HBW'.out.size))) b45 ((bel5.block D2 (Array.getElem?_eq_some_iff.1 HD4.out.2.1).1).trans HD4.out.2.1) ((bel5.block D (Array.getElem?_eq_some_iff.1 HD4.out.1).1).trans HD4.out.1) HD4.out.2.2.1 HD4.out.2.2.2.2
    case stop2 =>
      rintro D2 c pre W' hD2 hpre (hx | ⟨rfl, hat, hbel, hdd⟩) hK2
      · exact (ex_no ts n c pre hx hpre).elim
      have e9 := hat.cell
      have e2 := (show Boxed W' g 3 (.int .i64 (K : Int)) from (hbel.block g (by omega)).trans q3).cell
      have b4 : Boxed W' (g + 1) 4 (.bool false) := (hbel.block (g + 1) hgd).trans q4
      have hBW : Below g w W' := HBW.out.trans (hbel.mono (by omega))
      have HBW' : Hid (Below g w W') := hBW
      have HD4 : Hid (W'.heap[D]? = some (.deferred (some [])) ∧ W'.heap[D2]? = some (.deferred (some [])) ∧ D < D2 ∧ g + 1 < W'.heap.size ∧ g + 1 < D) := ⟨hdd, hK2, by omega, by have := (Array.getElem?_eq_some_iff.1 hK2).1; omega, by omega⟩
      gi_wp2_with fail
      refine ⟨trivial, (callsIn_wide.2 (works_any _ (HL.out.on (by rw [← HG.out]; exact HBW'.out)))).mono ?_⟩
      rintro e w5 ⟨rfl, bel5⟩
      have b45 : Boxed w5 (g + 1) 4 (.bool false) := (bel5.block (g + 1) HD4.out.2.2.2.1).trans b4
      have b45c := b45.cell
      have b45f := b45.frozen
      gi_wp2
      exact each_end HG.out rfl (HBW'.out.trans (bel5.mono (Nat.le_trans (by rw [HG.out]; exact Nat.le_refl _) HBW'.out.size))) b45 ((bel5.block D2 (Array.getElem?_eq_some_iff.1 HD4.out.2.1).1).trans HD4.out.2.1) ((bel5.block D (Array.getElem?_eq_some_iff.1 HD4.out.1).1).trans HD4.out.1) HD4.out.2.2.1 HD4.out.2.2.2.2
  case stop =>
    rintro D c pre W hD hpre hx hKD
    exact (ex_no ts n c pre hx hpre).elim
end Go.Proofs.YteeoakbafbnkhaaDoor

/-
  THE WALK of LexEach, whatever it is handed.
-/
namespace Go.Proofs.YteeoakbafbnkhaaDoor
open Go.RowKit Go.Shelf
set_option linter.unusedVariables false

theorem each_i64 {x : Int} (h : (Lit.int .i64 x).wf = true) : -9223372036854775808 ≤ x ∧ x ≤ 9223372036854775807 := by
  simp only [Lit.wf, IntKind.min, IntKind.max, IntKind.signed, IntKind.bits, Bool.and_eq_true, decide_eq_true_eq, if_true] at h
  omega
theorem row_len (l : List Nat) : (rowOf (tokens l)).length ≤ l.length := by
  cases h : tokens l with
  | ok ts => exact tokens_len l ts h
  | error x => exact Nat.zero_le _
set_option maxRecDepth 100000 in
theorem lexEach_walk (s : ByteArray) (stop : Int) (w : World) (hmax0 : s.size ≤ maxLen) (hs : (Lit.int .i64 stop).wf = true) (HL : Hid (Laid w)) : Calls Tryd.prog 9 #[.string s, .int .i64 stop] w fun e w' => e = .returned (.bool true) ∧ Below w.heap.size w w' := by
  have hmax : s.size ≤ 9223372036854775807 := hmax0
  clear hmax0
  by_cases hbig : 8192 < s.size
  · go_enter Tryd.func9, Tryd.ntmps9
    go_wp2
    have b4 : Boxed ((w.alloc (.cells #[.int .i64 stop] 3)).alloc (.cells #[.bool true] 4)) (w.heap.size + 1) 4 (.bool true) := by
      have := Boxed.new (w.alloc (.cells #[.int .i64 stop] 3)) 4 (.bool true)
      rwa [World.size_alloc] at this
    refine bodyPost_ret (each_results (g := w.heap.size) rfl b4) rfl ?_
    exact ⟨rfl, ((Below.refl _ _).alloc (Nat.le_refl _) _).alloc (by simp) _⟩
  · have hlen := row_len (bytesN s)
    rw [bytesN_length] at hlen
    have n0 : (((rowOf (tokens (bytesN s))).length : Int) + 1) ≠ 0 := by omega
    have eK0 := Int.emod_nonneg stop n0
    have eK1 := Int.emod_lt_of_pos stop (show 0 < ((rowOf (tokens (bytesN s))).length : Int) + 1 by omega)
    exact callsIn_wide.1 (lexEach_in s stop (each_i64 hs) hbig _ rfl _ rfl _ rfl (by omega) (stop % (((rowOf (tokens (bytesN s))).length : Int) + 1)).toNat (by omega) (by omega) w HL)
end Go.Proofs.YteeoakbafbnkhaaDoor
