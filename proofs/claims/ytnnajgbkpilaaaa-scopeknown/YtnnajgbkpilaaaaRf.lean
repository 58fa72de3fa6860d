/-
  THE DOCUMENT'S OWN SCOPE IN MEMORY.
-/
import Derived.Test.YtnnajgbkpilaaaaSc
import Derived.Test.YtnnajgbkpilaaaaClone
import Derived.Test.YtnnajgbkpilaaaaSteps
import Derived.Deep.QuietTactic
import Derived.BigQuiet
namespace Go.Proofs.Ytnnajgbkpilaaaa
open Go.RowKit
set_option linter.unusedVariables false

/-- Names with the numbers of their blocks. -/
def tg : Nat → List (List L) → List (L × Nat)
  | _, [] => []
  | n, f :: r => f.map (fun x => (x, n)) ++ tg (n + 1) r
theorem tg_snoc (c : List L) : ∀ (l : List (List L)) (n : Nat), tg n (l ++ [c]) = tg n l ++ c.map (fun x => (x, n + l.length))
  | [], n => by simp [tg]
  | f :: r, n => by
    have e : n + 1 + r.length = n + (r.length + 1) := by omega
    simp [tg, tg_snoc c r, e]
theorem tg_map : ∀ (l : List (List L)) (n : Nat), (tg n l).map (·.1) = l.flatten
  | [], n => rfl
  | f :: r, n => by simp [tg, tg_map r, List.map_map, Function.comp_def]
theorem tg_bound : ∀ (l : List (List L)) (n : Nat), ∀ x ∈ tg n l, n ≤ x.2 ∧ x.2 < n + l.length
  | [], n, x, hx => by simp [tg] at hx
  | f :: r, n, x, hx => by
    simp only [tg, List.mem_append, List.mem_map] at hx
    rcases hx with ⟨y, _, rfl⟩ | hx
    · simp
    · have := tg_bound r (n + 1) x hx
      simp only [List.length_cons]
      omega
def M.rls (m : M) : List (L × Nat) := tg 1 m.out ++ m.cur.map (fun x => (x, m.out.length + 1))
theorem M.rls_map (m : M) : m.rls.map (·.1) = m.flat := by simp [M.rls, M.flat, tg_map, List.map_map, Function.comp_def]
theorem M.rls_length (m : M) : m.rls.length = m.flat.length := by rw [← m.rls_map, List.length_map]
theorem M.rls_opened (m : M) : m.opened.rls = m.rls := by simp [M.rls, M.opened, tg_snoc, Nat.add_comm]
theorem M.rls_closed {m : M} {o : List (List L)} {c : List L} (h : m.out = o ++ [c]) : m.closed.rls = tg 1 m.out := by
  rw [closed_parts h]
  simp [M.rls, h, tg_snoc, Nat.add_comm]
def cR (x : L × Nat) : List Value := [.string x.1.name, .int .i64 (x.2 : Int), .int .i64 (x.1.slot : Int), .int .i64 x.1.typ]
def M.rowRL (m : M) : List Value := m.rls.flatMap cR
def cRT (t : T) : List Value := [.string t.label, .bool t.loop, .int .i64 (t.no : Int)]
def M.rowRT (m : M) : List Value := m.turns.flatMap cRT
theorem getElem_flat {α : Type} (f : α → List Value) (s : Nat) (hf : ∀ x, (f x).length = s) : ∀ (l : List α) (k j : Nat) (hk : k < l.length) (hj : j < s), (l.flatMap f)[k * s + j]? = (f l[k])[j]?
  | t :: r, 0, j, hk, hj => by rw [List.flatMap_cons, Nat.zero_mul, Nat.zero_add, List.getElem?_append_left (by rw [hf]; omega)]; rfl
  | t :: r, k + 1, j, hk, hj => by
    rw [List.flatMap_cons, List.getElem?_append_right (by rw [hf, Nat.add_mul]; omega), hf, show (k + 1) * s + j - s = k * s + j by rw [Nat.add_mul]; omega, getElem_flat f s hf r k j (by simpa using hk) hj]; rfl
structure RfOwn (w : World) (p : Nat) (v1 v2 v3 : Value) (m : M) : Prop where
  own : Own w p #[.int .i64 (m.out.length + 1 : Int), v1, v2, v3, .int .i64 (m.next : Int)] 64
  r1 : Rw w 89 4 v1 m.flat.length m.rowRL
  r2 : Rw w 3 1 v2 m.types.length m.rowI
  r3 : Rw w 91 3 v3 m.turns.length m.rowRT
def Blf (p : Nat) (v1 v2 v3 : Value) (b : Nat) : Prop := b = p ∨ v1.ownBlock = some b ∨ v2.ownBlock = some b ∨ v3.ownBlock = some b
def RfAt (w : World) (p : Nat) (m : M) (F : Nat → Prop) : Prop := ∃ v1 v2 v3, RfOwn w p v1 v2 v3 m ∧ (∀ b, Blf p v1 v2 v3 b → F b) ∧ (∀ b, F b → b < w.heap.size)
theorem RfOwn.on {w w' : World} {p : Nat} {v1 v2 v3 : Value} {m : M} (h : RfOwn w p v1 v2 v3 m) (hb : ∀ b, Blf p v1 v2 v3 b → w'.heap[b]? = w.heap[b]?) : RfOwn w' p v1 v2 v3 m :=
  ⟨(hb p (.inl rfl)).trans h.own, h.r1.on fun k e => hb k (.inr (.inl e)), h.r2.on fun k e => hb k (.inr (.inr (.inl e))), h.r3.on fun k e => hb k (.inr (.inr (.inr e)))⟩
theorem RfAt.fr {w w' : World} {p : Nat} {m : M} {F G : Nat → Prop} (h : RfAt w p m F) (hf : Fr G w w') (hd : ∀ b, F b → G b → False) : RfAt w' p m F := by
  obtain ⟨v1, v2, v3, h1, h2, h3⟩ := h
  exact ⟨v1, v2, v3, h1.on fun b hb => hf.block b (h3 b (h2 b hb)) fun q => hd b (h2 b hb) q, h2, fun b hb => Nat.lt_of_lt_of_le (h3 b hb) hf.size⟩
theorem RfAt.below {w w' : World} {p : Nat} {m : M} {F : Nat → Prop} (h : RfAt w p m F) (hf : Below w.heap.size w w') : RfAt w' p m F := h.fr (G := fun _ => False) (Fr.of hf) fun _ _ q => q
theorem RfAt.bd {w : World} {p : Nat} {m : M} {F : Nat → Prop} (h : RfAt w p m F) : ∀ b, F b → b < w.heap.size := by obtain ⟨v1, v2, v3, _, _, h3⟩ := h; exact h3
def RfRet (w : World) (p : Nat) (m' : M) (F : Nat → Prop) (w' : World) : Prop := ∃ F', RfAt w' p m' F' ∧ (∀ b, F' b → F b ∨ w.heap.size ≤ b) ∧ Fr F w w'
theorem RfRet.same {w w' : World} {p : Nat} {m : M} {F : Nat → Prop} (h : RfAt w p m F) (hb : Below w.heap.size w w') : RfRet w p m F w' := ⟨F, h.below hb, fun b hb => .inl hb, Fr.of hb⟩
theorem RfRet.mk' {w w' : World} {p : Nat} {m' : M} {F : Nat → Prop} {v1 v2 v3 u1 u2 u3 : Value} (hF : ∀ b, Blf p v1 v2 v3 b → F b) (h : RfOwn w' p u1 u2 u3 m') (hn : ∀ b, Blf p u1 u2 u3 b → Blf p v1 v2 v3 b ∨ w.heap.size ≤ b) (hf : Fr F w w') : RfRet w p m' F w' := by
  refine ⟨Blf p u1 u2 u3, ⟨u1, u2, u3, h, fun b hb => hb, fun b hb => ?_⟩, fun b hb => ?_, hf⟩
  · rcases hb with rfl | hb | hb | hb
    · exact h.own.lt
    · exact h.r1.lt hb
    · exact h.r2.lt hb
    · exact h.r3.lt hb
  · rcases hn b hb with q | q
    · exact .inl (hF b q)
    · exact .inr q
theorem revfind_some {α : Type} {p : α → Bool} {l : List α} {k : Nat} (hk : k < l.length) (h : p l[k] = true) (hn : ∀ i (hi : i < l.length), k < i → p l[i] = false) : l.reverse.find? p = some l[k] := by
  have e : l = l.take k ++ l[k] :: l.drop (k + 1) := by rw [← List.drop_eq_getElem_cons hk, List.take_append_drop]
  have e2 : l.reverse = (l.drop (k + 1)).reverse ++ (l[k] :: (l.take k).reverse) := by
    conv => lhs; rw [e]
    simp
  rw [e2, List.find?_append]
  have e3 : (l.drop (k + 1)).reverse.find? p = none := by
    rw [List.find?_eq_none]
    intro x hx
    obtain ⟨i, hi, rfl⟩ := List.mem_iff_getElem.1 (List.mem_reverse.1 hx)
    rw [List.getElem_drop, hn _ _ (by omega)]
    simp
  rw [e3]
  simp [h]
theorem revfind_none {α : Type} {p : α → Bool} {l : List α} (hn : ∀ i (hi : i < l.length), p l[i] = false) : l.reverse.find? p = none := by
  rw [List.find?_eq_none]
  intro x hx
  obtain ⟨i, hi, rfl⟩ := List.mem_iff_getElem.1 (List.mem_reverse.1 hx)
  rw [hn]; simp
theorem own5 {w : World} {g : Nat} {a0 a1 a2 a3 a4 : Value} {t : TypeId} (h : Own w g #[a0, a1, a2, a3, a4] t) : w.cell? ⟨g, 0, none⟩ = some a0 ∧ w.cell? ⟨g, 1, none⟩ = some a1 ∧ w.cell? ⟨g, 2, none⟩ = some a2 ∧ w.cell? ⟨g, 3, none⟩ = some a3 ∧ w.cell? ⟨g, 4, none⟩ = some a4 ∧ ∀ j, w.frozen? ⟨g, j, none⟩ = false :=
  ⟨h.cell 0, h.cell 1, h.cell 2, h.cell 3, h.cell 4, h.froz⟩
/-- A local's cells. -/
theorem rl_cells {w : World} {g n cap : Nat} {m : M} (h : Rw w 89 4 (.slice (some ⟨g, 0, none⟩) n cap) n m.rowRL) {k : Nat} (hk : k < m.rls.length) :
    w.cell? ⟨g, k * 4, none⟩ = some (.string m.rls[k].1.name) ∧ w.cell? ⟨g, k * 4 + 1, none⟩ = some (.int .i64 (m.rls[k].2 : Int)) ∧ w.cell? ⟨g, k * 4 + 2, none⟩ = some (.int .i64 (m.rls[k].1.slot : Int)) ∧ w.cell? ⟨g, k * 4 + 3, none⟩ = some (.int .i64 m.rls[k].1.typ) := by
  have key := getElem_flat cR 4 (fun _ => rfl) m.rls k
  exact ⟨h.cells _ _ (key 0 hk (by omega)), h.cells _ _ (key 1 hk (by omega)), h.cells _ _ (key 2 hk (by omega)), h.cells _ _ (key 3 hk (by omega))⟩
theorem rt_cells {w : World} {g n cap : Nat} {m : M} (h : Rw w 91 3 (.slice (some ⟨g, 0, none⟩) n cap) n m.rowRT) {k : Nat} (hk : k < m.turns.length) :
    w.cell? ⟨g, k * 3, none⟩ = some (.string m.turns[k].label) ∧ w.cell? ⟨g, k * 3 + 1, none⟩ = some (.bool m.turns[k].loop) ∧ w.cell? ⟨g, k * 3 + 2, none⟩ = some (.int .i64 (m.turns[k].no : Int)) := by
  have key := getElem_flat cRT 3 (fun _ => rfl) m.turns k
  exact ⟨h.cells _ _ (key 0 hk (by omega)), h.cells _ _ (key 1 hk (by omega)), h.cells _ _ (key 2 hk (by omega))⟩
set_option maxHeartbeats 1000000 in
theorem rNew (w : World) : Calls Try.prog 9 #[] w fun e w' => e = .returned (.pointer (some ⟨w.heap.size, 0, none⟩)) ∧ ∃ F, RfAt w' w.heap.size M.new F ∧ (∀ b, F b → w.heap.size ≤ b) ∧ Below w.heap.size w w' := by
  have ho := Own.new w #[.int .i64 1, .slice none 0 0, .slice none 0 0, .slice none 0 0, .int .i64 0] 64
  go_enter Try.func9, Try.ntmps9
  go_wp2
  go_ret
  refine ⟨rfl, fun b => b = w.heap.size, ⟨.slice none 0 0, .slice none 0 0, .slice none 0 0, ⟨ho, World.ownsRow_nil _ 0 89 4, World.ownsRow_nil _ 0 3 1, World.ownsRow_nil _ 0 91 3⟩, ?_, fun b hb => by rw [hb, World.size_alloc]; omega⟩, fun b hb => by omega, (Below.refl _ _).alloc (Nat.le_refl _) _⟩
  rintro b (q | q | q | q)
  · exact q
  · simp [Value.ownBlock] at q
  · simp [Value.ownBlock] at q
  · simp [Value.ownBlock] at q
set_option maxHeartbeats 1000000 in
theorem rOpen {w : World} {p : Nat} {m : M} {F : Nat → Prop} (h : RfAt w p m F) (hn : m.out.length ≤ 100000) : Calls Try.prog 32 #[.pointer (some ⟨p, 0, none⟩)] w fun e w' => e = .returned (.int .i64 (m.out.length + 2 : Int)) ∧ RfRet w p m.opened F w' := by
  obtain ⟨v1, v2, v3, H, hF, hl⟩ := h
  have ho := H.own
  obtain ⟨c0, -, -, -, -, hf⟩ := own5 ho
  have ho2 : Own (w.setCell ⟨p, 0, none⟩ (.int .i64 (m.out.length + 1 + 1 : Int))) p #[.int .i64 (m.out.length + 1 + 1 : Int), v1, v2, v3, .int .i64 (m.next : Int)] 64 := by simpa using ho.set 0 (.int .i64 (m.out.length + 1 + 1 : Int))
  have d0 := ho2.cell 0
  simp only [List.getElem?_toArray, List.getElem?_cons_zero] at d0
  obtain ⟨N, hN⟩ : ∃ N, Hid (m.out.length = N) := ⟨_, rfl⟩
  rw [hN.out] at c0 d0 hn ⊢
  go_enter Try.func32, Try.ntmps32
  go_wp2
  go_ret
  refine ⟨rfl, ?_⟩
  rw [← hN.out]
  have q1 := H.r1.ne ho (by decide)
  have q2 := H.r2.ne ho (by decide)
  have q3 := H.r3.ne ho (by decide)
  refine RfRet.mk' hF (u1 := v1) (u2 := v2) (u3 := v3) ⟨?_, ?_, H.r2.set q2 0 _, H.r3.set q3 0 _⟩ (fun b hb => .inl hb) ((Fr.refl F w).set (.inr (hF p (.inl rfl))) 0 _)
  · have e : ((m.opened.out.length : Int) + 1) = m.out.length + 1 + 1 := by simp [M.opened]
    rw [e]; exact ho2
  · have e : m.opened.rowRL = m.rowRL := by unfold M.rowRL; rw [M.rls_opened]
    rw [e, flat_opened]; exact H.r1.set q1 0 _
end Go.Proofs.Ytnnajgbkpilaaaa
