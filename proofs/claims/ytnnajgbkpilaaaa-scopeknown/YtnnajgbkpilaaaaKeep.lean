/-
  CONTRACTS of the landed innermostLoop and keep.
-/
import Derived.Test.YtnnajgbkpilaaaaFace1
namespace Go.Proofs.Ytnnajgbkpilaaaa
open Go.RowKit Go.Maps
set_option linter.unusedVariables false

def rowTs (ts : List T) : List Value := (tl (-1) ts).flatMap cT
theorem flat_length3 : ∀ (a : List (T × Int)), (a.flatMap cT).length = a.length * 3
  | [] => rfl
  | x :: r => by
    rw [List.flatMap_cons, List.length_append, flat_length3 r, List.length_cons]
    show 3 + _ = _
    omega
theorem rowTs_snoc (l : List T) (t : T) : rowTs (l ++ [t]) = rowTs l ++ [.string t.label, .int .i64 (t.no : Int), .int .i64 (lpF (-1) (l ++ [t]))] := by
  unfold rowTs
  rw [tl_snoc, List.flatMap_append, lpF_snoc]
  rfl
theorem rowTs_last (l : List T) (t : T) : (rowTs (l ++ [t]))[l.length * 3]? = some (.string t.label) ∧ (rowTs (l ++ [t]))[l.length * 3 + 1]? = some (.int .i64 (t.no : Int)) ∧ (rowTs (l ++ [t]))[l.length * 3 + 2]? = some (.int .i64 (lpF (-1) (l ++ [t]))) := by
  have e : (rowTs l).length = l.length * 3 := by unfold rowTs; rw [flat_length3, tl_length]
  rw [rowTs_snoc]
  refine ⟨?_, ?_, ?_⟩
  · rw [List.getElem?_append_right (by omega), e]; simp
  · rw [List.getElem?_append_right (by omega), e]; simp
  · rw [List.getElem?_append_right (by omega), e]; simp
theorem rowTs_take (l : List T) (t : T) : (rowTs (l ++ [t])).take (l.length * 3) = rowTs l := by
  have e : (rowTs l).length = l.length * 3 := by unfold rowTs; rw [flat_length3, tl_length]
  rw [rowTs_snoc, ← e, List.take_left]
set_option maxHeartbeats 1000000 in
theorem iloopS {w : World} {p : Nat} {v0 v1 v2 v3 v4 v5 : Value} {ts : List T} (ho : Own w p #[v0, v1, v2, v3, v4, v5] 57) (hr : Rw w 68 3 v1 ts.length (rowTs ts)) (hn : ts.length ≤ 100000) : Calls Try.prog 42 #[.pointer (some ⟨p, 0, none⟩)] w fun e w' => e = .returned (.int .i64 (lpF (-1) ts)) ∧ Below w.heap.size w w' := by
  rcases List.eq_nil_or_concat ts with rfl | ⟨l, t, rfl⟩
  · have hI := innerT0 w p _ _ _ _ _ _ _ ho hr
    go_enter Try.func42, Try.ntmps42
    go_wp2_with (go_at_call 45; refine hI.mono ?_; rintro e w1 ⟨rfl, hB1⟩)
    go_ret
    exact ⟨rfl, hB1.alloc hB1.size _⟩
  · rw [List.concat_eq_append] at hr hn ⊢
    obtain ⟨x0, x1, x2⟩ := rowTs_last l t
    rw [show (l ++ [t]).length = l.length + 1 by simp] at hr hn
    have hI := innerT w p _ _ _ _ _ _ l.length _ _ _ _ ho hr (by omega) x0 x1 x2
    generalize lpF (-1) (l ++ [t]) = z at *
    clear x0 x1 x2
    go_enter Try.func42, Try.ntmps42
    go_wp2_with (go_at_call 45; refine hI.mono ?_; rintro e w1 ⟨rfl, hB1⟩)
    go_ret
    exact ⟨rfl, hB1.alloc hB1.size _⟩
def LabT (w : World) (vm : Value) (ts : List T) (N : Nat) : Prop := LabAt w vm ⟨[], [], [], ts, N⟩
theorem labT_iff {w : World} {vm : Value} {m : M} : LabAt w vm m ↔ LabT w vm m.turns m.next := Iff.rfl
theorem LabT.mono {w : World} {vm : Value} {ts : List T} {N K : Nat} (h : LabT w vm ts N) (hk : N ≤ K) : LabT w vm ts K := by
  rcases h with h | ⟨b, n, D, h1, h2, h3, h4⟩
  · exact .inl h
  · exact .inr ⟨b, n, D, h1, h2, Nat.le_trans h3 hk, h4⟩
set_option maxHeartbeats 1000000 in
theorem keepE {w : World} {p : Nat} (lb : ByteArray) (hlb : lb = empt) (f g : Int) : Calls Try.prog 44 #[.pointer (some ⟨p, 0, none⟩), .agg #[.string lb, .int .i64 f, .int .i64 g]] w fun e w' => e = .returned (.tuple #[]) ∧ Below w.heap.size w w' := by
  subst hlb
  unfold empt
  go_enter Try.func44, Try.ntmps44
  go_wp2
  refine bodyPost_ret (results_none (fn := Try.f44) rfl _ _ _) rfl ?_
  exact ⟨rfl, (Below.refl _ _).alloc (Nat.le_refl _) _⟩
set_option maxHeartbeats 1000000 in
theorem keepB {w : World} {p b n : Nat} {v0 v1 v2 v3 v4 : Value} {D : DataW Unit} (ho : Own w p #[v0, v1, v2, v3, v4, .map (some b)] 57) (hm : w.ownsMap Try.prog 9 tR b n D) (hn : n ≤ 100000) (lb : ByteArray) (hlb : lb ≠ empt) (hsz : lb.size ≤ maxLen) (f g : Int) :
    Calls Try.prog 44 #[.pointer (some ⟨p, 0, none⟩), .agg #[.string lb, .int .i64 f, .int .i64 g]] w fun e w' => e = .returned (.tuple #[]) ∧ w'.ownsMap Try.prog 9 tR b (n + 1) (D.put (.string lb.data.toList) (.agg [.lit (.string lb.data.toList), .lit (.int .i64 f), .lit (.int .i64 g)])) ∧ Fr (fun k => k = b) w w' := by
  have hq : (lb.toList == ([] : List UInt8)) = false := by
    have h := ba_eq lb empt
    have e : empt.toList = [] := by rw [ByteArray.toList_eq]; rfl
    rw [e] at h
    rw [h]; simpa using hlb
  obtain ⟨w2, hrun, h1, h2⟩ := ((hm.alloc (.cells #[.string lb, .int .i64 f, .int .i64 g] 68)).drew).update keyed9 Try.underlying55 (by unfold maxLen; omega) (key9 hsz) (show tR (.agg #[.string lb, .int .i64 f, .int .i64 g]) = some (_, []) from rfl)
  have oA := ho.alloc (.cells #[.string lb, .int .i64 f, .int .i64 g] 68)
  have c5 := oA.cell 5
  have c5d := oA.drew.cell 5
  have x2 := (Own.new w #[.string lb, .int .i64 f, .int .i64 g] 68).drew
  have y0 := x2.cell 0
  have y1 := x2.cell 1
  have y2 := x2.cell 2
  simp only [List.getElem?_toArray, List.getElem?_cons_zero, List.getElem?_cons_succ] at c5 c5d y0 y1 y2
  have hnil : ∀ W, (binOp .eql 55 (.map (some b)) (.map none)).run Try.prog W = .ok (.bool false) W := fun W => run_eql_map_nil_sl W 55 9 68 (some b) Try.underlying55
  go_enter Try.func44, Try.ntmps44
  go_wp2_with fail
  go_region
  all_goals (
    refine bodyPost_end (results_none (fn := Try.f44) rfl _ _ _) rfl ?_
    exact ⟨rfl, h1, (((Fr.refl _ w).alloc _).drew.grown h2 fun k _ e => (Option.some.inj e).symm)⟩)
set_option maxHeartbeats 1000000 in
theorem keepN {w : World} {p : Nat} {v0 v1 v2 v3 v4 : Value} (ho : Own w p #[v0, v1, v2, v3, v4, .map none] 57) (lb : ByteArray) (hlb : lb ≠ empt) (hsz : lb.size ≤ maxLen) (f g : Int) :
    Calls Try.prog 44 #[.pointer (some ⟨p, 0, none⟩), .agg #[.string lb, .int .i64 f, .int .i64 g]] w fun e w' => e = .returned (.tuple #[]) ∧ w'.ownsMap Try.prog 9 tR (w.heap.size + 1) 1 ((DataW.map []).put (.string lb.data.toList) (.agg [.lit (.string lb.data.toList), .lit (.int .i64 f), .lit (.int .i64 g)])) ∧ Own w' p #[v0, v1, v2, v3, v4, .map (some (w.heap.size + 1))] 57 ∧ Fr (fun k => k = p) w w' := by
  have hq : (lb.toList == ([] : List UInt8)) = false := by
    have h := ba_eq lb empt
    have e : empt.toList = [] := by rw [ByteArray.toList_eq]; rfl
    rw [e] at h
    rw [h]; simpa using hlb
  have hpl := ho.lt
  have oA := ho.alloc (.cells #[.string lb, .int .i64 f, .int .i64 g] 68)
  have c5 := oA.cell 5
  have oB := oA.alloc (.map #[] 0)
  have c5b := oB.cell 5
  have f5b := oB.froz 5
  have oC : Own (((w.setCell ⟨p, 5, none⟩ (.map (some (w.heap.size + 1)))).alloc (.cells #[.string lb, .int .i64 f, .int .i64 g] 68)).alloc (.map #[] 0)) p #[v0, v1, v2, v3, v4, .map (some (w.heap.size + 1))] 57 := by
    have q : Own (w.setCell ⟨p, 5, none⟩ (.map (some (w.heap.size + 1)))) p #[v0, v1, v2, v3, v4, .map (some (w.heap.size + 1))] 57 := by simpa using ho.set 5 (.map (some (w.heap.size + 1)))
    exact (q.alloc _).alloc _
  have hmC := World.ownsMap_made ((w.setCell ⟨p, 5, none⟩ (.map (some (w.heap.size + 1)))).alloc (.cells #[.string lb, .int .i64 f, .int .i64 g] 68)) Try.prog 9 tR
  rw [World.size_alloc, World.size_setCell] at hmC
  have xC := (Own.new (w.setCell ⟨p, 5, none⟩ (.map (some (w.heap.size + 1)))) #[.string lb, .int .i64 f, .int .i64 g] 68).alloc (.map #[] 0)
  rw [World.size_setCell] at xC
  have FrC : Fr (fun k => k = p) w (((w.setCell ⟨p, 5, none⟩ (.map (some (w.heap.size + 1)))).alloc (.cells #[.string lb, .int .i64 f, .int .i64 g] 68)).alloc (.map #[] 0)) := (((Fr.refl (fun k => k = p) w).set (.inr rfl) 5 _).alloc _).alloc _
  obtain ⟨w2, hrun, h1, h2⟩ := (hmC.drew).update keyed9 Try.underlying55 (by unfold maxLen; omega) (key9 hsz) (show tR (.agg #[.string lb, .int .i64 f, .int .i64 g]) = some (_, []) from rfl)
  have c5d := oC.drew.cell 5
  have y0 := xC.drew.cell 0
  have y1 := xC.drew.cell 1
  have y2 := xC.drew.cell 2
  simp only [List.getElem?_toArray, List.getElem?_cons_zero, List.getElem?_cons_succ] at c5 c5b c5d y0 y1 y2
  have hnil : ∀ W, (binOp .eql 55 (.map none) (.map none)).run Try.prog W = .ok (.bool true) W := fun W => run_eql_map_nil_sl W 55 9 68 none Try.underlying55
  have hmm := @run_makeMap Try.prog
  go_enter Try.func44, Try.ntmps44
  go_wp2_with fail
  go_region
  all_goals (
    refine bodyPost_end (results_none (fn := Try.f44) rfl _ _ _) rfl ?_
    refine ⟨rfl, h1, oC.drew.grown h2 (fun e => by have := Option.some.inj e; omega), FrC.drew.grown h2 fun k hk e => by have := Option.some.inj e; omega⟩)
/-- A turn is kept by its label, if it has one. -/
theorem keepS {w : World} {p N : Nat} {v0 v1 v2 v3 v4 vm : Value} {ts : List T} (ho : Own w p #[v0, v1, v2, v3, v4, vm] 57) (hl : LabT w vm ts N) (hN : N ≤ 100000) (t : T) (hsz : t.label.size ≤ maxLen) (hfresh : t.label ≠ empt → ∀ x ∈ ts, x.label ≠ t.label) :
    Calls Try.prog 44 #[.pointer (some ⟨p, 0, none⟩), tV (t, lpF (-1) (ts ++ [t]))] w fun e w' => e = .returned (.tuple #[]) ∧ ∃ vm', Own w' p #[v0, v1, v2, v3, v4, vm'] 57 ∧ LabT w' vm' (ts ++ [t]) (N + 1) ∧ Fr (fun k => k = p ∨ vm = .map (some k)) w w' ∧ (∀ b, vm' = .map (some b) → vm = .map (some b) ∨ w.heap.size ≤ b) := by
  by_cases he : t.label = empt
  · refine (keepE (p := p) t.label he (t.no : Int) (lpF (-1) (ts ++ [t]))).mono ?_
    rintro e w' ⟨rfl, hB⟩
    refine ⟨rfl, vm, ho.below hB, ?_, Fr.of hB, fun b hb => .inl hb⟩
    have hl2 : LabT w' vm ts N := lab_on hl fun b e => hB.block b (lab_lt hl e)
    rcases hl2 with ⟨h1, h2⟩ | ⟨b, n, D, h1, h2, h3, h4, h5⟩
    · refine .inl ⟨h1, fun x hx => ?_⟩
      rcases List.mem_append.1 hx with hx | hx
      · exact h2 x hx
      · rw [List.mem_singleton.1 hx]; exact he
    · exact .inr ⟨b, n, D, h1, h2, Nat.le_succ_of_le h3, h4, fun l => by rw [h5 l]; unfold labD; show (match labF ts l with | some x => tD x | none => DataW.nil) = (match labF (ts ++ [t]) l with | some x => tD x | none => DataW.nil); rw [lab_same t he l]⟩
  · have hlp := lpF_snoc t ts (-1)
    rcases hl with ⟨rfl, h2⟩ | ⟨b, n, D, rfl, h2, h3, h4⟩
    · refine (keepN ho t.label he hsz (t.no : Int) (lpF (-1) (ts ++ [t]))).mono ?_
      rintro e w' ⟨rfl, k1, k2, k3⟩
      refine ⟨rfl, _, k2, .inr ⟨_, _, _, rfl, k1, by show 1 ≤ N + 1; omega, ?_⟩, k3.mono fun k _ e => .inl e, fun b hb => .inr (by cases hb; omega)⟩
      rw [hlp]
      exact lab_put (D := .map []) ⟨⟨_, rfl⟩, fun l => by unfold labD; rw [labF_none h2]; rfl⟩ t he hsz (hfresh he)
    · refine (keepB ho h2 (Nat.le_trans h3 hN) t.label he hsz (t.no : Int) (lpF (-1) (ts ++ [t]))).mono ?_
      rintro e w' ⟨rfl, k1, k3⟩
      refine ⟨rfl, .map (some b), ho.fr k3 (fun e => ?_), .inr ⟨b, n + 1, _, rfl, k1, Nat.succ_le_succ h3, ?_⟩, k3.mono fun k _ e => .inr (by rw [e]), fun b hb => .inl hb⟩
      · obtain ⟨es, clock, g1, _⟩ := h2
        unfold Own at ho
        rw [e, g1] at ho
        cases ho
      · rw [hlp]
        exact lab_put h4 t he hsz (hfresh he)
end Go.Proofs.Ytnnajgbkpilaaaa
