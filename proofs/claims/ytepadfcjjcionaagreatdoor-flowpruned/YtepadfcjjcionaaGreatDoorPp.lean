/-
  TERMS IN MEMORY, with the blocks that they lie in; rows of terms that grow.
-/
import Derived.Test.YtepadfcjjcionaaGreatDoorAr
namespace Go.Proofs.YtepadfcjjcionaaGreatDoor
open Go.RowKit
set_option linter.unusedVariables false

/-- The terms whose cells begin at o; what hangs on them lies in blocks of S. -/
def CellsP (S : Nat → Prop) (w : World) : List Tm → Array Value → Nat → Prop
  | [], _, _ => True
  | ⟨op, ty, n, tx, ks⟩ :: ts, cs, o => (∃ ao cap, cs[o]? = some (.int .u8 op) ∧ cs[o + 1]? = some (.int .i64 ty) ∧ cs[o + 2]? = some (.int .i64 n) ∧ cs[o + 3]? = some (.string tx) ∧ cs[o + 4]? = some (.slice ao ks.length cap) ∧ ks.length ≤ cap ∧ cap ≤ 9223372036854775807 ∧ inr n ∧
      (ks = [] ∨ ∃ g o' cs' T fr, ao = some ⟨g, o', none⟩ ∧ S g ∧ w.heap[g]? = some (.cells cs' T fr) ∧ CellsP S w ks cs' o')) ∧ CellsP S w ts cs (o + 5)
theorem cellsP_cons {S : Nat → Prop} {w : World} {op ty n : Int} {tx : ByteArray} {ks ts : List Tm} {cs : Array Value} {o : Nat} : CellsP S w (⟨op, ty, n, tx, ks⟩ :: ts) cs o ↔ (∃ ao cap, cs[o]? = some (.int .u8 op) ∧ cs[o + 1]? = some (.int .i64 ty) ∧ cs[o + 2]? = some (.int .i64 n) ∧ cs[o + 3]? = some (.string tx) ∧ cs[o + 4]? = some (.slice ao ks.length cap) ∧ ks.length ≤ cap ∧ cap ≤ 9223372036854775807 ∧ inr n ∧
      (ks = [] ∨ ∃ g o' cs' T fr, ao = some ⟨g, o', none⟩ ∧ S g ∧ w.heap[g]? = some (.cells cs' T fr) ∧ CellsP S w ks cs' o')) ∧ CellsP S w ts cs (o + 5) := by rw [CellsP]
def KidsP (S : Nat → Prop) (w : World) (v : Value) (ts : List Tm) : Prop := ∃ ao cap, v = .slice ao ts.length cap ∧ ts.length ≤ cap ∧ cap ≤ 9223372036854775807 ∧ (ts = [] ∨ ∃ g o cs T fr, ao = some ⟨g, o, none⟩ ∧ S g ∧ w.heap[g]? = some (.cells cs T fr) ∧ CellsP S w ts cs o)
theorem CellsP.on {S S' : Nat → Prop} {w w' : World} (hk : ∀ (g : Nat) (o : Obj), S g → w.heap[g]? = some o → S' g ∧ w'.heap[g]? = some o) : ∀ (ts : List Tm) (cs : Array Value) (o : Nat), CellsP S w ts cs o → CellsP S' w' ts cs o := by
  intro ts
  induction ts using tmRec with
  | h0 => intro cs o h; simp [CellsP]
  | h1 op ty n tx ks ts ih1 ih2 =>
    intro cs o h
    rw [cellsP_cons] at h ⊢
    obtain ⟨⟨ao, cap, c0, c1, c2, c3, c4, h1, h2, hr, h3⟩, h4⟩ := h
    refine ⟨⟨ao, cap, c0, c1, c2, c3, c4, h1, h2, hr, ?_⟩, ih2 cs _ h4⟩
    rcases h3 with h3 | ⟨g, o', cs', T, fr, rfl, hs, hg, hc⟩
    · exact .inl h3
    · obtain ⟨q1, q2⟩ := hk g _ hs hg
      exact .inr ⟨g, o', cs', T, fr, rfl, q1, q2, ih1 cs' o' hc⟩
theorem KidsP.on {S S' : Nat → Prop} {w w' : World} {v : Value} {ts : List Tm} (h : KidsP S w v ts) (hk : ∀ (g : Nat) (o : Obj), S g → w.heap[g]? = some o → S' g ∧ w'.heap[g]? = some o) : KidsP S' w' v ts := by
  obtain ⟨ao, cap, rfl, h1, h2, h3⟩ := h
  refine ⟨ao, cap, rfl, h1, h2, ?_⟩
  rcases h3 with h3 | ⟨g, o, cs, T, fr, rfl, hs, hg, hc⟩
  · exact .inl h3
  · obtain ⟨q1, q2⟩ := hk g _ hs hg
    exact .inr ⟨g, o, cs, T, fr, rfl, q1, q2, CellsP.on hk _ _ _ hc⟩
theorem CellsP.toR {S : Nat → Prop} {w : World} : ∀ (ts : List Tm) (cs : Array Value) (o : Nat), CellsP S w ts cs o → CellsR w ts cs o := by
  intro ts
  induction ts using tmRec with
  | h0 => intro cs o h; simp [CellsR]
  | h1 op ty n tx ks ts ih1 ih2 =>
    intro cs o h
    rw [cellsP_cons] at h
    rw [cellsR_cons]
    obtain ⟨⟨ao, cap, c0, c1, c2, c3, c4, h1, h2, hr, h3⟩, h4⟩ := h
    refine ⟨⟨ao, cap, c0, c1, c2, c3, c4, h1, h2, hr, ?_⟩, ih2 cs _ h4⟩
    rcases h3 with h3 | ⟨g, o', cs', T, fr, rfl, hs, hg, hc⟩
    · exact .inl h3
    · exact .inr ⟨g, o', cs', T, fr, rfl, hg, ih1 cs' o' hc⟩
theorem KidsP.toR {S : Nat → Prop} {w : World} {v : Value} {ts : List Tm} (h : KidsP S w v ts) : KidsR w v ts := by
  obtain ⟨ao, cap, rfl, h1, h2, h3⟩ := h
  refine ⟨ao, cap, rfl, h1, h2, ?_⟩
  rcases h3 with h3 | ⟨g, o, cs, T, fr, rfl, hs, hg, hc⟩
  · exact .inl h3
  · exact .inr ⟨g, o, cs, T, fr, rfl, hg, CellsP.toR _ _ _ hc⟩
theorem CellsR.toP {w : World} : ∀ (ts : List Tm) (cs : Array Value) (o : Nat), CellsR w ts cs o → CellsP (fun g => g < w.heap.size) w ts cs o := by
  intro ts
  induction ts using tmRec with
  | h0 => intro cs o h; simp [CellsP]
  | h1 op ty n tx ks ts ih1 ih2 =>
    intro cs o h
    rw [cellsR_cons] at h
    rw [cellsP_cons]
    obtain ⟨⟨ao, cap, c0, c1, c2, c3, c4, h1, h2, hr, h3⟩, h4⟩ := h
    refine ⟨⟨ao, cap, c0, c1, c2, c3, c4, h1, h2, hr, ?_⟩, ih2 cs _ h4⟩
    rcases h3 with h3 | ⟨g, o', cs', T, fr, rfl, hg, hc⟩
    · exact .inl h3
    · exact .inr ⟨g, o', cs', T, fr, rfl, (Array.getElem?_eq_some_iff.1 hg).1, hg, ih1 cs' o' hc⟩
theorem KidsR.toP {w : World} {v : Value} {ts : List Tm} (h : KidsR w v ts) : KidsP (fun g => g < w.heap.size) w v ts := by
  obtain ⟨ao, cap, rfl, h1, h2, h3⟩ := h
  refine ⟨ao, cap, rfl, h1, h2, ?_⟩
  rcases h3 with h3 | ⟨g, o, cs, T, fr, rfl, hg, hc⟩
  · exact .inl h3
  · exact .inr ⟨g, o, cs, T, fr, rfl, (Array.getElem?_eq_some_iff.1 hg).1, hg, CellsR.toP _ _ _ hc⟩

/-! ### Rows -/
def RowP (S : Nat → Prop) (w : World) : List Tm → List Value → Prop
  | [], xs => xs = []
  | t :: ts, xs => ∃ v rest, xs = .int .u8 t.op :: .int .i64 t.ty :: .int .i64 t.n :: .string t.tx :: v :: rest ∧ KidsP S w v t.ks ∧ inr t.n ∧ RowP S w ts rest
theorem RowP.snoc {S : Nat → Prop} {w : World} {u : Tm} {v : Value} (hv : KidsP S w v u.ks) (hn : inr u.n) : ∀ {ts : List Tm} {xs : List Value}, RowP S w ts xs → RowP S w (ts ++ [u]) (xs ++ [.int .u8 u.op, .int .i64 u.ty, .int .i64 u.n, .string u.tx, v])
  | [], xs, h => by
    simp only [RowP] at h
    subst h
    exact ⟨v, [], rfl, hv, hn, rfl⟩
  | t :: ts, xs, h => by
    obtain ⟨v', rest, rfl, h1, h2, h3⟩ := h
    exact ⟨v', _, rfl, h1, h2, RowP.snoc hv hn h3⟩
theorem RowP.on {S S' : Nat → Prop} {w w' : World} (hk : ∀ (g : Nat) (o : Obj), S g → w.heap[g]? = some o → S' g ∧ w'.heap[g]? = some o) : ∀ {ts : List Tm} {xs : List Value}, RowP S w ts xs → RowP S' w' ts xs
  | [], xs, h => h
  | t :: ts, xs, h => by
    obtain ⟨v', rest, rfl, h1, h2, h3⟩ := h
    exact ⟨v', _, rfl, h1.on hk, h2, RowP.on hk h3⟩
theorem RowP.cells {S : Nat → Prop} {w : World} {cur : Array Value} : ∀ {ts : List Tm} {xs : List Value} {o : Nat}, RowP S w ts xs → (∀ j v, xs[j]? = some v → cur[o + j]? = some v) → CellsP S w ts cur o
  | [], xs, o, h, _ => by simp [CellsP]
  | ⟨op, ty, n, tx, ks⟩ :: ts, xs, o, h, hc => by
    obtain ⟨v, rest, rfl, ⟨ao, cap, rfl, q1, q2, q3⟩, h2, h3⟩ := h
    rw [cellsP_cons]
    refine ⟨⟨ao, cap, hc 0 _ rfl, hc 1 _ rfl, hc 2 _ rfl, hc 3 _ rfl, hc 4 _ rfl, q1, q2, h2, q3⟩, RowP.cells h3 fun j v hj => ?_⟩
    have := hc (j + 5) v (by simpa using hj)
    rw [show o + (j + 5) = o + 5 + j by omega] at this
    exact this
theorem RowP.kids {S S' : Nat → Prop} {w : World} {v : Value} {ts : List Tm} {xs : List Value} {n base : Nat} (h : RowP S w ts xs) (hn : ts.length = n) (ho : w.ownsRow base 24 5 v n xs) (hS : ∀ g, S g → S' g) (hb : ∀ g, v.ownBlock = some g → S' g) : KidsP S' w v ts := by
  subst hn
  obtain ⟨h1, h2⟩ := ho
  have h' : RowP S' w ts xs := h.on fun g o hg hw => ⟨hS g hg, hw⟩
  rcases h2 with ⟨rfl, h0⟩ | ⟨g, cap, cur, rfl, q1, q2, q3, q4, q5, q6⟩
  · have : ts = [] := List.eq_nil_of_length_eq_zero h0
    subst this
    exact ⟨none, 0, rfl, Nat.le_refl _, by omega, .inl rfl⟩
  · refine ⟨some ⟨g, 0, none⟩, cap, rfl, q3, by unfold maxLen at q4; omega, .inr ⟨g, 0, cur, 24, (0, 0), rfl, hb g rfl, q2, h'.cells fun j u hj => ?_⟩⟩
    rw [Nat.zero_add, ← Array.getElem?_toList]
    rw [← q6] at hj
    by_cases hlt : j < ts.length * 5
    · rw [List.getElem?_take, if_pos hlt] at hj; exact hj
    · rw [List.getElem?_take, if_neg hlt] at hj; cases hj

/-! ### append -/
theorem run_appF (W : World) (ty : TypeId) (v : Value) (n : Nat) (xs : List Value) (hown : W.ownsRow 0 24 5 v n xs) (c0 c1 c2 : Int) (c3 : ByteArray) (ao : Option Addr) (m cap : Nat) (b : Nat) (hb : Own W b #[.int .u8 c0, .int .i64 c1, .int .i64 c2, .string c3, .slice ao m cap] 24) (h63 : n ≤ 10000000) :
    ∃ a' c' w', (Builtin.append_ #[22, 22] ty #[v, .slice (some ⟨b, 0, none⟩) 1 1]).run Tryz.prog W = .ok (.slice a' (n + 1) c') w' ∧ w'.ownsRow 0 24 5 (.slice a' (n + 1) c') (n + 1) (xs ++ [.int .u8 c0, .int .i64 c1, .int .i64 c2, .string c3, .slice ao m cap]) ∧ W.grownBy w' v.ownBlock ∧ ((Value.slice a' (n + 1) c').ownBlock = v.ownBlock ∨ (Value.slice a' (n + 1) c').ownBlock = some W.heap.size) := by
  obtain ⟨i8, hi, hz0, hz1, hz2⟩ := info_parts info24
  obtain ⟨v', w', hr, g1, g2, _, g4⟩ := run_append_own_at (P := Tryz.prog) W 0 22 ty 24 i8 _ 5 64 Tryz.underlying22 hi hz0 hz1 hz2 rfl (by omega) v n xs hown ⟨b, 0, none⟩ 1 1 [.int .u8 c0, .int .i64 c1, .int .i64 c2, .string c3, .slice ao m cap] rfl (fun j u hu => by
    have hadd : (⟨b, 0, none⟩ : Addr).add j = ⟨b, j, none⟩ := by unfold Addr.add; split <;> simp_all
    rw [hadd, hb.cell j]; simpa using hu) (fun u hu => by
    simp only [List.mem_cons, List.not_mem_nil, or_false] at hu
    rcases hu with rfl | rfl | rfl | rfl | rfl <;> rfl) (by unfold maxLen; omega) (by omega) (Nat.zero_le _)
  have hsh : ∃ ao cap, v' = .slice ao (n + 1) cap := by
    rcases g1.2 with ⟨rfl, h0⟩ | ⟨g, cap, cur, rfl, _⟩
    · omega
    · exact ⟨_, _, rfl⟩
  obtain ⟨ao', cap', rfl⟩ := hsh
  exact ⟨ao', cap', w', hr, g1, g2, g4⟩
theorem step_appF {W : World} {ops : Array Oper} {o : Oper} {a : Act} {K : Act → World → Prop} {Q : Exit → Act → World → Prop} {E : Prop} (hgd : o.guard = none) (s x : Operand)
    (ho : o.op = .call { callee := .builtin .append, args := #[s, x], argTypes := #[22, 22] }) (v : Value) (n : Nat) (xs : List Value) (hs : a.eval s = v) (hown : W.ownsRow 0 24 5 v n xs) (c0 c1 c2 : Int) (c3 : ByteArray) (ao : Option Addr) (m cap : Nat) (b : Nat) (hx : a.eval x = .slice (some ⟨b, 0, none⟩) 1 1) (hb : Own W b #[.int .u8 c0, .int .i64 c1, .int .i64 c2, .string c3, .slice ao m cap] 24) (h63 : n ≤ 10000000)
    (h : ∀ a' c' w', w'.ownsRow 0 24 5 (.slice a' (n + 1) c') (n + 1) (xs ++ [.int .u8 c0, .int .i64 c1, .int .i64 c2, .string c3, .slice ao m cap]) → W.grownBy w' v.ownBlock → ((Value.slice a' (n + 1) c').ownBlock = v.ownBlock ∨ (Value.slice a' (n + 1) c').ownBlock = some W.heap.size) → K (a.put o.dst (.slice a' (n + 1) c')) w') :
    if Region.wanted o (yielded ops a.tmps) = true then Oper.wp Tryz.prog o a W K Q else E := by
  have hw : Region.wanted o (yielded ops a.tmps) = true := by simp [Region.wanted, hgd]
  rw [if_pos hw]
  obtain ⟨a', c', w', hr, g1, g2, g3⟩ := run_appF W o.type v n xs hown c0 c1 c2 c3 ao m cap b hb h63
  unfold Oper.wp execOp
  simp only [ho, resolve, invoke, builtin, Sem.run_bind, Sem.run_pure, Result.andThen_ok, List.map_toArray, List.map_cons, List.map_nil, hs, hx, hr]
  exact h a' c' w' g1 g2 g3
theorem wpList_appF {W : World} {ops : Array Oper} {rest : List Oper} {o : Oper} {a : Act} {Q : Exit → Act → World → Prop} (hgd : o.guard = none) (s x : Operand)
    (ho : o.op = .call { callee := .builtin .append, args := #[s, x], argTypes := #[22, 22] }) (v : Value) (n : Nat) (xs : List Value) (hs : a.eval s = v) (hown : W.ownsRow 0 24 5 v n xs) (c0 c1 c2 : Int) (c3 : ByteArray) (ao : Option Addr) (m cap : Nat) (b : Nat) (hx : a.eval x = .slice (some ⟨b, 0, none⟩) 1 1) (hb : Own W b #[.int .u8 c0, .int .i64 c1, .int .i64 c2, .string c3, .slice ao m cap] 24) (h63 : n ≤ 10000000)
    (h : ∀ a' c' w', w'.ownsRow 0 24 5 (.slice a' (n + 1) c') (n + 1) (xs ++ [.int .u8 c0, .int .i64 c1, .int .i64 c2, .string c3, .slice ao m cap]) → W.grownBy w' v.ownBlock → ((Value.slice a' (n + 1) c').ownBlock = v.ownBlock ∨ (Value.slice a' (n + 1) c').ownBlock = some W.heap.size) → wpList Tryz.prog ops Q rest (a.put o.dst (.slice a' (n + 1) c')) w') :
    wpList Tryz.prog ops Q (o :: rest) a W := by
  obtain ⟨a', c', w', hr, g1, g2, g3⟩ := run_appF W o.type v n xs hown c0 c1 c2 c3 ao m cap b hb h63
  refine wpList_plain hgd fun K hK => ?_
  unfold Oper.wp execOp
  simp only [ho, resolve, invoke, builtin, Sem.run_bind, Sem.run_pure, Result.andThen_ok, List.map_toArray, List.map_cons, List.map_nil, hs, hx, hr]
  exact hK _ _ (h a' c' w' g1 g2 g3)
end Go.Proofs.YtepadfcjjcionaaGreatDoor
