/-
  THE WALK of WireSums.
-/
import Derived.Test.YtekoeeneebolbaaBackWalk
import Derived.Deep.QuietTactic
import Derived.BigQuiet
namespace Go.Proofs.Ytekoeeneebolbaa
open Go.RowKit

/-- The worlds in which all that stood in w2 stands. -/
def After (w2 : World) : Type := { w' : World // Below w2.heap.size w2 w' }
theorem after_of {w2 w' : World} (h : Below w2.heap.size w2 w') : ∃ t : After w2, w' = t.1 := ⟨⟨w', h⟩, rfl⟩
theorem quiet_same {w2 : World} {f : FuncId} {args : Array Value} {v : Value} (t : After w2) (h : Calls Try.prog f args t.1 fun e w' => e = .returned v ∧ t.1 = w') :
    Calls Try.prog f args t.1 fun e w'' => e = .returned v ∧ ∃ t' : After w2, w'' = t'.1 :=
  h.mono fun _ _ ⟨he, hw⟩ => ⟨he, t, hw.symm⟩
theorem quiet_new {w2 : World} {f : FuncId} {args : Array Value} {v : Value} (t : After w2) (h : Calls Try.prog f args t.1 fun e w' => e = .returned v ∧ Below t.1.heap.size t.1 w') :
    Calls Try.prog f args t.1 fun e w'' => e = .returned v ∧ ∃ t' : After w2, w'' = t'.1 :=
  h.mono fun _ w' ⟨he, hb⟩ => ⟨he, ⟨w', below_chain t.2 hb (Nat.le_refl _)⟩, rfl⟩

theorem wp_region_after {id : Nat} {Q : Exit → Act → World → Prop} {a : Act} {w : World} {l : List Oper} (hm : Try.prog.follows .mixedOrders = true) (hB : Region.lexB .any l.toArray = true)
    (h : wpQuiet Try.prog l.toArray (fun w' => ∃ t : After w, w' = t.1) (fun a' => ∀ w', (∃ t : After w, w' = t.1) → Q .normal a' w') l a) : (Code.region id l.toArray true).wp Try.prog Q a w :=
  wp_region_quiet (C := fun w' => ∃ t : After w, w' = t.1) hm hB (after_of ⟨rfl, rfl, rfl, Nat.le_refl _, fun _ _ => rfl⟩) (by simpa using h)

theorem sum_as (a : Option Addr) (L cap : Nat) (xs : List Nat) (s : Nat) (w : World) (hl : Lies w a xs) (hL : L = xs.length) (hs : s = sumN xs) :
    Calls Try.prog 24 #[.slice a L cap] w fun e w' => e = .returned (.int .u32 (s : Int)) ∧ w = w' := by
  subst hs; exact sum_any a L cap xs w hl hL
theorem nums_set (xs : List Nat) (k d : Nat) : (nums xs).set k (.int .u8 (d : Int)) = nums (xs.set k d) := by simp [nums, List.map_set]
theorem sum_set (xs : List Nat) (k d : Nat) (hk : k < xs.length) (hb : ∀ c ∈ xs, c < 256) (hd : d < 256) : (sumN xs = sumN (xs.set k d)) ↔ xs.getD k 0 = d := by
  have e1 : xs = xs.take k ++ xs.getD k 0 :: xs.drop (k + 1) := by
    rw [← drop_cons xs k hk, List.take_append_drop]
  have e2 : xs.set k d = xs.take k ++ d :: xs.drop (k + 1) := by
    rw [List.set_eq_take_append_cons_drop, if_pos hk]
  have hc : xs.getD k 0 < 256 := hb _ (by simp [List.getD, hk])
  rw [e2]
  conv => lhs; lhs; rw [e1]
  exact sum_other _ _ _ _ hc hd

theorem own_cell {w1 : World} {B : Nat} {v : Value} {L k : Nat} {xs : List Nat} (own : w1.ownsRow B 5 1 v (0 + L) (nums ([] ++ xs))) (hL : L = xs.length) (hk : k < L) (h1 : 1 ≤ L) :
    ∃ g cap, v = .slice (some ⟨g, 0, none⟩) L cap ∧ w1.ownsRow B 5 1 (.slice (some ⟨g, 0, none⟩) L cap) L (nums xs) ∧ w1.cell? ⟨g, k, none⟩ = some (.int .u8 ((xs.getD k 0 : Nat) : Int)) ∧ w1.frozen? ⟨g, k, none⟩ = false := by
  rw [Nat.zero_add, List.nil_append] at own
  obtain ⟨g, cap, hv⟩ := owned_form own h1
  subst hv
  refine ⟨g, cap, rfl, own, ?_, own.frozenAt k⟩
  rw [own.cellAt k (by omega), nums_get xs k (by omega)]

set_option maxRecDepth 100000 in
set_option maxHeartbeats 1000000 in
theorem sums_walk (b off L c k d : Nat) (z : Int) (xs : List Nat) (w : World) (hl : Lies w (some ⟨b, off, none⟩) xs) (hbl : b < w.heap.size) (hL : L = xs.length) (hm : L ≤ 16384) (h1 : 1 ≤ L) (hz : z.tmod L = (k : Int)) (hk : k < L) (hd : d < 256) :
    Calls Try.prog 8 #[.slice (some ⟨b, off, none⟩) L c, .int .i64 z, .int .u8 d] w fun e w' => e = .returned (.bool true) ∧ Below w.heap.size w w' := by
  have X : Hid (Lies w (some ⟨b, off, none⟩) xs) := hl
  have HL : Hid (L = xs.length) := hL
  have HBL : Hid (b < w.heap.size) := hbl
  have hne : ((L : Int) == 0) = false := by simp; omega
  clear hl hL hbl
  go_enter Try.func8, Try.ntmps8
  go_wp2_with (at_builtin; refine wpList_app rfl (.tmp 27) (.tmp 28) rfl w.heap.size (.slice none 0 0) 0 [] rfl (World.ownsRow_nil _ _ _ _) (some ⟨b, off, none⟩) L c xs rfl X.out HL.out (fun h => (Option.some_ne_none _ h).elim) (by omega) (Nat.le_refl _) ?_; intro v1 w1 own1 below1; obtain ⟨g, cap, rfl, own2, hcell, hfr⟩ := own_cell own1 HL.out hk h1)
  obtain ⟨w2, hw2⟩ : ∃ w2, w2 = w1.setCell ⟨g, k, none⟩ (.int .u8 (d : Int)) := ⟨_, rfl⟩
  rw [← hw2]
  have st := own2.stored k (.int .u8 (d : Int))
  rw [← hw2] at st
  have hb2 : Below w.heap.size w w2 := below1.grown st.2 below1.size (fun j hj => by cases hj; exact (own2.lt g rfl).1)
  have own3 := st.1
  rw [nums_set] at own3
  have hbytes : ∀ x ∈ xs, x < 256 := X.out.1
  have hkx : k < xs.length := by rw [← HL.out]; exact hk
  have hbs : ∀ x ∈ xs.set k d, x < 256 := by
    intro x hx
    rcases List.mem_or_eq_of_mem_set hx with h | h
    · exact hbytes x h
    · omega
  have lx : Lies w2 (some ⟨b, off, none⟩) xs := lies_below X.out hb2 HBL.out
  have ls : Lies w2 (some ⟨g, 0, none⟩) (xs.set k d) := lies_of_owns (by rw [List.length_set]; exact HL.out) own3 hbs (by rw [List.length_set, ← HL.out]; omega)
  have hbw2 : b < w2.heap.size := Nat.lt_of_lt_of_le HBL.out hb2.size
  have hgw2 : g < w2.heap.size := (own3.lt g rfl).2
  have LX : Hid (∀ t : After w2, Lies t.1 (some ⟨b, off, none⟩) xs) := fun t => lies_below lx t.2 hbw2
  have LS : Hid (∀ t : After w2, Lies t.1 (some ⟨g, 0, none⟩) (xs.set k d)) := fun t => lies_below ls t.2 hgw2
  have hload : ∀ t : After w2, t.1.cell? ⟨b, off + k, none⟩ = some (.int .u8 ((xs.getD k 0 : Nat) : Int)) := fun t => by
    rcases (lies_below lx t.2 hbw2).2.2 with h | ⟨b', o', e, hc⟩
    · rw [h] at hkx; simp at hkx
    · cases e; exact hc k hkx
  have HS : Hid ((sumN xs = sumN (xs.set k d)) ↔ xs.getD k 0 = d) := sum_set xs k d hkx hbytes hd
  have HB2 : Hid (Below w.heap.size w w2) := hb2
  have HLs : Hid (L = (xs.set k d).length) := by unfold Hid; rw [List.length_set]; exact HL.out
  obtain ⟨C, hC⟩ : ∃ C, C = xs.getD k 0 := ⟨_, rfl⟩
  obtain ⟨s1, hs1⟩ : ∃ s1, s1 = sumN xs := ⟨_, rfl⟩
  obtain ⟨s2, hs2⟩ : ∃ s2, s2 = sumN (xs.set k d) := ⟨_, rfl⟩
  rw [← hC] at HS hload
  rw [← hs1, ← hs2] at HS
  have K1 : Hid (s1 = sumN xs) := hs1
  have K2 : Hid (s2 = sumN (xs.set k d)) := hs2
  clear hw2 st hb2 own3 hbytes hkx hbs lx ls hbw2 hgw2 own1 own2 hcell hfr below1 hC hs1 hs2 X
  by_cases hq : C = d
  · subst hq
    have e12 : s1 = s2 := HS.out.2 rfl
    subst e12
    refine wp_region_after (by kernel_rfl) (by kernel_rfl) ?_
    repeat (go_big_quiet_step (with_reducible exact rfl))
    go_big_quiet_step (exact quiet_same _ (sum_as _ L c xs s1 _ (LX.out _) HL.out K1.out))
    repeat (go_big_quiet_step (with_reducible exact rfl))
    go_big_quiet_step (exact quiet_same _ (sum_as _ L cap (xs.set k C) _ _ (LS.out _) HLs.out K2.out))
    repeat (go_big_quiet_step (with_reducible exact rfl))
    go_big_quiet_step (exact quiet_new _ (works_any _))
    repeat (go_big_quiet_step (with_reducible exact rfl))
    refine wpQuiet_nil ?_
    intro _ hw'
    obtain ⟨t, rfl⟩ := hw'
    go_wp2
    go_ret
    exact ⟨rfl, below_chain HB2.out t.2 (Nat.le_refl _)⟩
  · have hs12 : ((s1 : Int) == (s2 : Int)) = false := by
      have : ¬ s1 = s2 := fun e => hq (HS.out.1 e)
      simp; omega
    have hCd : ((C : Int) == (d : Int)) = false := by simp; omega
    refine wp_region_after (by kernel_rfl) (by kernel_rfl) ?_
    repeat (go_big_quiet_step (with_reducible exact rfl))
    go_big_quiet_step (exact quiet_same _ (sum_as _ L c xs s1 _ (LX.out _) HL.out K1.out))
    repeat (go_big_quiet_step (with_reducible exact rfl))
    go_big_quiet_step (exact quiet_same _ (sum_as _ L cap (xs.set k d) _ _ (LS.out _) HLs.out K2.out))
    repeat (go_big_quiet_step (with_reducible exact rfl))
    go_big_quiet_step (exact quiet_new _ (works_any _))
    repeat (go_big_quiet_step (with_reducible exact rfl))
    refine wpQuiet_nil ?_
    intro _ hw'
    obtain ⟨t, rfl⟩ := hw'
    go_wp2
    go_ret
    exact ⟨rfl, below_chain HB2.out t.2 (Nat.le_refl _)⟩
set_option maxRecDepth 100000 in
set_option maxHeartbeats 1000000 in
theorem sums_walkN (b off L c k d : Nat) (z : Int) (xs : List Nat) (w : World) (hl : Lies w (some ⟨b, off, none⟩) xs) (hbl : b < w.heap.size) (hL : L = xs.length) (hm : L ≤ 16384) (h1 : 1 ≤ L) (hneg : z.tmod L < 0) (hz : z.tmod L + L = (k : Int)) (hk : k < L) (hd : d < 256) :
    Calls Try.prog 8 #[.slice (some ⟨b, off, none⟩) L c, .int .i64 z, .int .u8 d] w fun e w' => e = .returned (.bool true) ∧ Below w.heap.size w w' := by
  have X : Hid (Lies w (some ⟨b, off, none⟩) xs) := hl
  have HL : Hid (L = xs.length) := hL
  have HBL : Hid (b < w.heap.size) := hbl
  have hne : ((L : Int) == 0) = false := by simp; omega
  clear hl hL hbl
  go_enter Try.func8, Try.ntmps8
  go_wp2_with (at_builtin; (try simp only [hz]); refine wpList_app rfl (.tmp 27) (.tmp 28) rfl w.heap.size (.slice none 0 0) 0 [] rfl (World.ownsRow_nil _ _ _ _) (some ⟨b, off, none⟩) L c xs rfl X.out HL.out (fun h => (Option.some_ne_none _ h).elim) (by omega) (Nat.le_refl _) ?_; intro v1 w1 own1 below1; obtain ⟨g, cap, rfl, own2, hcell, hfr⟩ := own_cell own1 HL.out hk h1)
  obtain ⟨w2, hw2⟩ : ∃ w2, w2 = w1.setCell ⟨g, k, none⟩ (.int .u8 (d : Int)) := ⟨_, rfl⟩
  rw [← hw2]
  have st := own2.stored k (.int .u8 (d : Int))
  rw [← hw2] at st
  have hb2 : Below w.heap.size w w2 := below1.grown st.2 below1.size (fun j hj => by cases hj; exact (own2.lt g rfl).1)
  have own3 := st.1
  rw [nums_set] at own3
  have hbytes : ∀ x ∈ xs, x < 256 := X.out.1
  have hkx : k < xs.length := by rw [← HL.out]; exact hk
  have hbs : ∀ x ∈ xs.set k d, x < 256 := by
    intro x hx
    rcases List.mem_or_eq_of_mem_set hx with h | h
    · exact hbytes x h
    · omega
  have lx : Lies w2 (some ⟨b, off, none⟩) xs := lies_below X.out hb2 HBL.out
  have ls : Lies w2 (some ⟨g, 0, none⟩) (xs.set k d) := lies_of_owns (by rw [List.length_set]; exact HL.out) own3 hbs (by rw [List.length_set, ← HL.out]; omega)
  have hbw2 : b < w2.heap.size := Nat.lt_of_lt_of_le HBL.out hb2.size
  have hgw2 : g < w2.heap.size := (own3.lt g rfl).2
  have LX : Hid (∀ t : After w2, Lies t.1 (some ⟨b, off, none⟩) xs) := fun t => lies_below lx t.2 hbw2
  have LS : Hid (∀ t : After w2, Lies t.1 (some ⟨g, 0, none⟩) (xs.set k d)) := fun t => lies_below ls t.2 hgw2
  have hload : ∀ t : After w2, t.1.cell? ⟨b, off + k, none⟩ = some (.int .u8 ((xs.getD k 0 : Nat) : Int)) := fun t => by
    rcases (lies_below lx t.2 hbw2).2.2 with h | ⟨b', o', e, hc⟩
    · rw [h] at hkx; simp at hkx
    · cases e; exact hc k hkx
  have HS : Hid ((sumN xs = sumN (xs.set k d)) ↔ xs.getD k 0 = d) := sum_set xs k d hkx hbytes hd
  have HB2 : Hid (Below w.heap.size w w2) := hb2
  have HLs : Hid (L = (xs.set k d).length) := by unfold Hid; rw [List.length_set]; exact HL.out
  obtain ⟨C, hC⟩ : ∃ C, C = xs.getD k 0 := ⟨_, rfl⟩
  obtain ⟨s1, hs1⟩ : ∃ s1, s1 = sumN xs := ⟨_, rfl⟩
  obtain ⟨s2, hs2⟩ : ∃ s2, s2 = sumN (xs.set k d) := ⟨_, rfl⟩
  rw [← hC] at HS hload
  rw [← hs1, ← hs2] at HS
  have K1 : Hid (s1 = sumN xs) := hs1
  have K2 : Hid (s2 = sumN (xs.set k d)) := hs2
  clear hw2 st hb2 own3 hbytes hkx hbs lx ls hbw2 hgw2 own1 own2 hcell hfr below1 hC hs1 hs2 X
  by_cases hq : C = d
  · subst hq
    have e12 : s1 = s2 := HS.out.2 rfl
    subst e12
    refine wp_region_after (by kernel_rfl) (by kernel_rfl) ?_
    repeat (go_big_quiet_step (with_reducible exact rfl))
    go_big_quiet_step (exact quiet_same _ (sum_as _ L c xs s1 _ (LX.out _) HL.out K1.out))
    repeat (go_big_quiet_step (with_reducible exact rfl))
    go_big_quiet_step (exact quiet_same _ (sum_as _ L cap (xs.set k C) _ _ (LS.out _) HLs.out K2.out))
    repeat (go_big_quiet_step (with_reducible exact rfl))
    go_big_quiet_step (exact quiet_new _ (works_any _))
    repeat (go_big_quiet_step (with_reducible exact rfl))
    refine wpQuiet_nil ?_
    intro _ hw'
    obtain ⟨t, rfl⟩ := hw'
    go_wp2
    go_ret
    exact ⟨rfl, below_chain HB2.out t.2 (Nat.le_refl _)⟩
  · have hs12 : ((s1 : Int) == (s2 : Int)) = false := by
      have : ¬ s1 = s2 := fun e => hq (HS.out.1 e)
      simp; omega
    have hCd : ((C : Int) == (d : Int)) = false := by simp; omega
    refine wp_region_after (by kernel_rfl) (by kernel_rfl) ?_
    repeat (go_big_quiet_step (with_reducible exact rfl))
    go_big_quiet_step (exact quiet_same _ (sum_as _ L c xs s1 _ (LX.out _) HL.out K1.out))
    repeat (go_big_quiet_step (with_reducible exact rfl))
    go_big_quiet_step (exact quiet_same _ (sum_as _ L cap (xs.set k d) _ _ (LS.out _) HLs.out K2.out))
    repeat (go_big_quiet_step (with_reducible exact rfl))
    go_big_quiet_step (exact quiet_new _ (works_any _))
    repeat (go_big_quiet_step (with_reducible exact rfl))
    refine wpQuiet_nil ?_
    intro _ hw'
    obtain ⟨t, rfl⟩ := hw'
    go_wp2
    go_ret
    exact ⟨rfl, below_chain HB2.out t.2 (Nat.le_refl _)⟩
end Go.Proofs.Ytekoeeneebolbaa
