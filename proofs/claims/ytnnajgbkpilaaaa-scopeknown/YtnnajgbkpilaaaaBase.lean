/-
  THE SCOPE AS A VALUE: blocks with their names, turns; what the calls answer; blocks of memory, and what a call keeps.
-/
import Derived.Test.YtnnajgbkpilaaaaChecked
import Derived.WalkKit
import Derived.WalkLawsBesides
import Derived.WalkSpells
import Derived.Handy
import Derived.Outline
import Derived.Below
import Derived.Lib.SmallJoins
import Derived.Maps.AppendAt
import Derived.Maps.Own
import Derived.Maps.Views
namespace Go.Proofs.Ytnnajgbkpilaaaa
open Go.RowKit
set_option linter.unusedVariables false

/-! ### The model -/
structure L where
  name : ByteArray
  slot : Nat
  typ : Int
structure T where
  label : ByteArray
  loop : Bool
  no : Nat
structure M where
  out : List (List L)
  cur : List L
  types : List Int
  turns : List T
  next : Nat
def M.flat (m : M) : List L := m.out.flatten ++ m.cur
def M.new : M := ⟨[], [], [], [], 0⟩
def empt : ByteArray := ⟨#[]⟩
def M.opened (m : M) : M := { m with out := m.out ++ [m.cur], cur := [] }
def M.closed (m : M) : M := if m.out = [] then m else { m with out := m.out.dropLast, cur := m.out.getLastD [] }
def M.closes (m : M) : Bool := decide (m.out ≠ [])
def hasN (n : ByteArray) (l : List L) : Bool := l.any fun x => decide (x.name = n)
def M.decE (m : M) (n : ByteArray) : Nat := if hasN n m.cur then 70 else if 256 ≤ m.types.length then 73 else 0
def M.declared (m : M) (n : ByteArray) (t : Int) : M := if m.decE n = 0 then { m with cur := m.cur ++ [⟨n, m.types.length, t⟩], types := m.types ++ [t] } else m
def M.decV (m : M) (n : ByteArray) : Nat := if m.decE n = 0 then m.types.length else 0
def lastN (n : ByteArray) (l : List L) : Option L := l.reverse.find? fun x => decide (x.name = n)
def M.find (m : M) (n : ByteArray) : Option L := lastN n m.flat
def hasT (n : ByteArray) (l : List T) : Bool := l.any fun x => decide (x.label = n)
def M.entE (m : M) (n : ByteArray) : Nat := if n ≠ empt ∧ hasT n m.turns = true then 70 else 0
def M.entered (m : M) (n : ByteArray) (b : Bool) : M := if m.entE n = 0 then { m with turns := m.turns ++ [⟨n, b, m.next⟩], next := m.next + 1 } else m
def M.entV (m : M) (n : ByteArray) : Nat := if m.entE n = 0 then m.next else 0
def M.left (m : M) : M := { m with turns := m.turns.dropLast }
def M.leaves (m : M) : Bool := decide (m.turns ≠ [])
def M.tgt (m : M) (n : ByteArray) (b : Bool) : Option T := m.turns.reverse.find? fun t => (decide (n = empt) || decide (t.label = n)) && (t.loop || !b)
def M.tgtV (m : M) (n : ByteArray) (b : Bool) : Nat := match m.tgt n b with | some t => t.no | none => 0
def M.tgtE (m : M) (n : ByteArray) (b : Bool) : Nat := match m.tgt n b with | some _ => 0 | none => 72

/-- Where each block's names begin. -/
def firsts : Nat → List (List L) → List Nat
  | _, [] => []
  | a, f :: r => a :: firsts (a + f.length) r
theorem firsts_snoc (c : List L) : ∀ (l : List (List L)) (a : Nat), firsts a (l ++ [c]) = firsts a l ++ [a + l.flatten.length]
  | [], a => by simp [firsts]
  | f :: r, a => by simp [firsts, firsts_snoc c r, Nat.add_assoc]
theorem firsts_length : ∀ (l : List (List L)) (a : Nat), (firsts a l).length = l.length
  | [], _ => rfl
  | f :: r, a => by simp [firsts, firsts_length r]
def M.fst (m : M) : List Nat := firsts 0 m.out ++ [m.out.flatten.length]
theorem M.fst_length (m : M) : m.fst.length = m.out.length + 1 := by simp [M.fst, firsts_length]
theorem M.fst_opened (m : M) : m.opened.fst = m.fst ++ [m.flat.length] := by
  simp [M.fst, M.opened, firsts_snoc, M.flat]
theorem M.fst_last (m : M) : m.fst[m.out.length]? = some m.out.flatten.length := by
  simp [M.fst, firsts_length]
theorem closed_parts {m : M} {o : List (List L)} {c : List L} (h : m.out = o ++ [c]) : m.closed = { m with out := o, cur := c } := by
  simp [M.closed, h]
theorem M.fst_closed {m : M} {o : List (List L)} {c : List L} (h : m.out = o ++ [c]) : m.fst = m.closed.fst ++ [m.out.flatten.length] := by
  rw [closed_parts h]
  simp [M.fst, h, firsts_snoc]

/-- Turns with the number of the innermost loop there. -/
def lpF (a : Int) : List T → Int
  | [] => a
  | t :: r => lpF (if t.loop then (t.no : Int) else a) r
def tl (a : Int) : List T → List (T × Int)
  | [] => []
  | t :: r => (t, if t.loop then (t.no : Int) else a) :: tl (if t.loop then (t.no : Int) else a) r
theorem lpF_snoc (t : T) : ∀ (l : List T) (a : Int), lpF a (l ++ [t]) = if t.loop then (t.no : Int) else lpF a l
  | [], a => rfl
  | x :: r, a => by simp [lpF, lpF_snoc t r]
theorem tl_snoc (t : T) : ∀ (l : List T) (a : Int), tl a (l ++ [t]) = tl a l ++ [(t, if t.loop then (t.no : Int) else lpF a l)]
  | [], a => rfl
  | x :: r, a => by simp [tl, lpF, tl_snoc t r]
theorem tl_length : ∀ (l : List T) (a : Int), (tl a l).length = l.length
  | [], _ => rfl
  | t :: r, a => by simp [tl, tl_length r]
def cT (x : T × Int) : List Value := [.string x.1.label, .int .i64 (x.1.no : Int), .int .i64 x.2]
def M.rowT (m : M) : List Value := (tl (-1) m.turns).flatMap cT
def cL (x : L) : List Value := [.string x.name, .int .i64 (x.slot : Int)]
def M.rowL (m : M) : List Value := m.flat.flatMap cL
def M.rowB (m : M) : List Value := m.fst.map fun (n : Nat) => .int .i64 (n : Int)
def M.rowI (m : M) : List Value := m.types.map fun n => .int .i64 n

/-! ### What holds of every scope -/
structure Inv (m : M) : Prop where
  slots : ∀ x ∈ m.flat, m.types[x.slot]? = some x.typ
  few : m.types.length ≤ 256
  lows : m.flat.length ≤ m.types.length
  nums : m.turns.Pairwise fun a b => a.no < b.no
  next : ∀ t ∈ m.turns, t.no < m.next
  labs : m.turns.Pairwise fun a b => a.label = b.label → a.label = empt
  size : ∀ t ∈ m.turns, t.label.size ≤ maxLen
theorem Inv.new : Inv M.new := ⟨by simp [M.new, M.flat], by simp [M.new], by simp [M.new, M.flat], by simp [M.new], by simp [M.new], by simp [M.new], by simp [M.new]⟩
theorem Inv.opened {m : M} (h : Inv m) : Inv m.opened :=
  ⟨by simpa [M.opened, M.flat] using h.slots, h.few, by simpa [M.opened, M.flat] using h.lows, h.nums, h.next, h.labs, h.size⟩
theorem flat_closed {m : M} {o : List (List L)} {c : List L} (ho : m.out = o ++ [c]) : m.closed.flat = m.out.flatten := by
  rw [closed_parts ho]; simp [M.flat, ho]
theorem Inv.closed {m : M} (h : Inv m) : Inv m.closed := by
  rcases List.eq_nil_or_concat m.out with ho | ⟨o, c, ho⟩
  · have e : m.closed = m := by simp [M.closed, ho]
    rw [e]; exact h
  · rw [List.concat_eq_append] at ho
    have e := flat_closed ho
    have e2 := closed_parts ho
    refine ⟨?_, by rw [e2]; exact h.few, ?_, by rw [e2]; exact h.nums, by rw [e2]; exact h.next, by rw [e2]; exact h.labs, by rw [e2]; exact h.size⟩
    · rw [e, e2]
      intro x hx
      exact h.slots x (by simp [M.flat, hx])
    · rw [e, e2]
      have := h.lows
      simp only [M.flat, List.length_append] at this
      show m.out.flatten.length ≤ m.types.length
      omega
theorem Inv.declared {m : M} (h : Inv m) (n : ByteArray) (t : Int) : Inv (m.declared n t) := by
  unfold M.declared
  split
  · rename_i he
    have h2 : m.types.length < 256 := by
      unfold M.decE at he
      split at he
      · omega
      · split at he
        · omega
        · omega
    refine ⟨?_, by simp; omega, ?_, h.nums, h.next, h.labs, h.size⟩
    · intro x hx
      simp only [M.flat, List.mem_append, List.mem_singleton] at hx
      have hold : ∀ x ∈ m.flat, (m.types ++ [t])[x.slot]? = some x.typ := by
        intro x hx
        have e := h.slots x hx
        obtain ⟨hl, _⟩ := List.getElem?_eq_some_iff.1 e
        rw [List.getElem?_append_left hl]; exact e
      rcases hx with hx | hx | hx
      · exact hold x (by simp [M.flat, hx])
      · exact hold x (by simp [M.flat, hx])
      · subst hx
        simp
    · have := h.lows
      simp only [M.flat, List.length_append, List.length_singleton] at this ⊢
      omega
  · exact h
theorem entE_cases (m : M) (n : ByteArray) : m.entE n = 70 ∧ n ≠ empt ∧ hasT n m.turns = true ∨ m.entE n = 0 ∧ (n ≠ empt → hasT n m.turns = false) := by
  unfold M.entE
  split
  · rename_i h; exact .inl ⟨rfl, h⟩
  · rename_i h
    refine .inr ⟨rfl, fun hn => ?_⟩
    cases e : hasT n m.turns
    · rfl
    · exact absurd ⟨hn, e⟩ h
theorem hasT_false {n : ByteArray} {l : List T} (h : hasT n l = false) : ∀ t ∈ l, t.label ≠ n := by
  intro t ht e
  have : hasT n l = true := List.any_eq_true.2 ⟨t, ht, by simp [e]⟩
  rw [h] at this; cases this
theorem Inv.entered {m : M} (h : Inv m) (n : ByteArray) (b : Bool) (hn : n.size ≤ maxLen) : Inv (m.entered n b) := by
  unfold M.entered
  split
  · rename_i he
    rcases entE_cases m n with ⟨h1, _⟩ | ⟨_, h2⟩
    · omega
    refine ⟨h.slots, h.few, h.lows, ?_, ?_, ?_, ?_⟩
    · rw [List.pairwise_append]
      exact ⟨h.nums, by simp, fun a ha b hb => by rw [List.mem_singleton.1 hb]; exact h.next a ha⟩
    · intro t ht
      rcases List.mem_append.1 ht with ht | ht
      · have := h.next t ht
        show t.no < m.next + 1
        omega
      · rw [List.mem_singleton.1 ht]; exact Nat.lt_succ_self _
    · rw [List.pairwise_append]
      refine ⟨h.labs, by simp, fun a ha b hb e => ?_⟩
      rw [List.mem_singleton.1 hb] at e
      refine Classical.byContradiction fun q => ?_
      have hne : n ≠ empt := fun e2 => q (by rw [e]; exact e2)
      exact hasT_false (h2 hne) a ha e
    · intro t ht
      rcases List.mem_append.1 ht with ht | ht
      · exact h.size t ht
      · rw [List.mem_singleton.1 ht]; exact hn
  · exact h
theorem Inv.left {m : M} (h : Inv m) : Inv m.left := by
  have hs : m.turns.dropLast.Sublist m.turns := List.dropLast_sublist _
  exact ⟨h.slots, h.few, h.lows, h.nums.sublist hs, fun t ht => h.next t (hs.subset ht), h.labs.sublist hs, fun t ht => h.size t (hs.subset ht)⟩

/-! ### Blocks of memory -/
def Own (w : World) (g : Nat) (cs : Array Value) (t : TypeId) : Prop := w.heap[g]? = some (Obj.cells cs t (0, 0))
theorem Own.lt {w : World} {g : Nat} {cs : Array Value} {t : TypeId} (h : Own w g cs t) : g < w.heap.size := (Array.getElem?_eq_some_iff.1 h).1
theorem Own.new (w : World) (cs : Array Value) (t : TypeId) : Own (w.alloc (.cells cs t)) w.heap.size cs t := heap_alloc_new w _
theorem Own.alloc {w : World} {g : Nat} {cs : Array Value} {t : TypeId} (h : Own w g cs t) (o : Obj) : Own (w.alloc o) g cs t := (Below.heap_alloc w o g h.lt).trans h
theorem Own.drew {w : World} {g : Nat} {cs : Array Value} {t : TypeId} (h : Own w g cs t) : Own w.drew g cs t := h
theorem Own.other {w : World} {g g' i : Nat} {cs : Array Value} {t : TypeId} (h : Own w g cs t) (hne : g ≠ g') (u : Value) : Own (w.setCell ⟨g', i, none⟩ u) g cs t := (Below.heap_setCell w ⟨g', i, none⟩ u g hne).trans h
theorem Own.ne {w : World} {g g' : Nat} {cs cs' : Array Value} {t t' : TypeId} (h : Own w g cs t) (h' : Own w g' cs' t') (ht : t ≠ t') : g ≠ g' := by
  rintro rfl
  unfold Own at h h'
  rw [h] at h'
  cases h'
  exact ht rfl
theorem heap_set (w : World) (g i : Nat) (cs : Array Value) (t : TypeId) (fr : Nat × Nat) (b : Value) (h : w.heap[g]? = some (.cells cs t fr)) :
    (w.setCell ⟨g, i, none⟩ b).heap[g]? = some (.cells (cs.setIfInBounds i b) t fr) := by
  simp [World.setCell, Array.getElem?_modify, h]
theorem Own.set {w : World} {g : Nat} {cs : Array Value} {t : TypeId} (h : Own w g cs t) (i : Nat) (u : Value) : Own (w.setCell ⟨g, i, none⟩ u) g (cs.setIfInBounds i u) t := heap_set w g i _ t (0, 0) u h
theorem Own.cell {w : World} {g : Nat} {cs : Array Value} {t : TypeId} (h : Own w g cs t) (i : Nat) : w.cell? ⟨g, i, none⟩ = cs[i]? := cell_of_row _ g i _ _ _ h
theorem Own.froz {w : World} {g : Nat} {cs : Array Value} {t : TypeId} (h : Own w g cs t) (i : Nat) : w.frozen? ⟨g, i, none⟩ = false := by unfold Own at h; simp [World.frozen?, h]

/-! ### What a call keeps: all old blocks but those of F -/
structure Fr (F : Nat → Prop) (w w' : World) : Prop where
  os : w'.os = w.os
  tape : w'.tape = w.tape
  output : w'.output = w.output
  size : w.heap.size ≤ w'.heap.size
  block : ∀ k, k < w.heap.size → ¬ F k → w'.heap[k]? = w.heap[k]?
theorem Fr.refl (F : Nat → Prop) (w : World) : Fr F w w := ⟨rfl, rfl, rfl, Nat.le_refl _, fun _ _ _ => rfl⟩
theorem Fr.trans {F : Nat → Prop} {a b c : World} (h : Fr F a b) (k : Fr F b c) : Fr F a c :=
  ⟨k.os.trans h.os, k.tape.trans h.tape, k.output.trans h.output, Nat.le_trans h.size k.size, fun i hi hn => (k.block i (Nat.lt_of_lt_of_le hi h.size) hn).trans (h.block i hi hn)⟩
theorem Fr.mono {F G : Nat → Prop} {a b : World} (h : Fr F a b) (hg : ∀ k, k < a.heap.size → F k → G k) : Fr G a b := ⟨h.os, h.tape, h.output, h.size, fun k hk hn => h.block k hk fun e => hn (hg k hk e)⟩
/-- One behind the other, the second one with blocks that the first has made. -/
theorem Fr.then {F G : Nat → Prop} {a b c : World} (h : Fr F a b) (k : Fr G b c) (hg : ∀ i, i < a.heap.size → G i → F i) : Fr F a c :=
  ⟨k.os.trans h.os, k.tape.trans h.tape, k.output.trans h.output, Nat.le_trans h.size k.size, fun i hi hn => (k.block i (Nat.lt_of_lt_of_le hi h.size) fun e => hn (hg i hi e)).trans (h.block i hi hn)⟩
theorem Fr.of {F : Nat → Prop} {w w' : World} (h : Below w.heap.size w w') : Fr F w w' := ⟨h.os, h.tape, h.output, h.size, fun k hk _ => h.block k hk⟩
theorem Fr.alloc {F : Nat → Prop} {a w : World} (h : Fr F a w) (o : Obj) : Fr F a (w.alloc o) := h.trans (Fr.of ((Below.refl _ _).alloc (Nat.le_refl _) o))
theorem Fr.drew {F : Nat → Prop} {a w : World} (h : Fr F a w) : Fr F a w.drew := ⟨h.os, h.tape, h.output, h.size, h.block⟩
theorem Fr.set {F : Nat → Prop} {a w : World} (h : Fr F a w) {g : Nat} (hg : a.heap.size ≤ g ∨ F g) (i : Nat) (u : Value) : Fr F a (w.setCell ⟨g, i, none⟩ u) :=
  ⟨h.os, h.tape, h.output, Nat.le_trans h.size (by simp [World.setCell]), fun k hk hn => (Below.heap_setCell w ⟨g, i, none⟩ u k (by show k ≠ g; rintro rfl; rcases hg with hg | hg; omega; exact hn hg)).trans (h.block k hk hn)⟩
theorem Fr.grown {F : Nat → Prop} {a w w' : World} {row : Option Nat} (h : Fr F a w) (hg : w.grownBy w' row) (hr : ∀ k, k < a.heap.size → row = some k → F k) : Fr F a w' :=
  ⟨hg.os.trans h.os, hg.tape.trans h.tape, hg.output.trans h.output, Nat.le_trans h.size hg.size, fun k hk hn => (hg.block k (Nat.lt_of_lt_of_le hk h.size) (fun e => hn (hr k hk e.symm))).trans (h.block k hk hn)⟩
theorem Fr.below {w w' : World} (h : Fr (fun _ => False) w w') : Below w.heap.size w w' := ⟨h.os, h.tape, h.output, h.size, fun k hk => h.block k hk fun e => e⟩
theorem Own.fr {F : Nat → Prop} {w w' : World} {g : Nat} {cs : Array Value} {t : TypeId} (h : Own w g cs t) (hk : Fr F w w') (hne : ¬ F g) : Own w' g cs t := (hk.block g h.lt hne).trans h
theorem Own.grown {w w' : World} {g : Nat} {cs : Array Value} {t : TypeId} {row : Option Nat} (h : Own w g cs t) (hg : w.grownBy w' row) (hne : some g ≠ row) : Own w' g cs t := (hg.block g h.lt hne).trans h
theorem Own.below {w w' : World} {g : Nat} {cs : Array Value} {t : TypeId} (h : Own w g cs t) (hk : Below w.heap.size w w') : Own w' g cs t := (hk.block g h.lt).trans h

/-! ### Rows of the call's own -/
/-- A row of n parts of type e: in a block that holds such parts alone. -/
def Rw (w : World) (e : TypeId) (size : Nat) (v : Value) (n : Nat) (xs : List Value) : Prop := w.ownsRow 0 e size v n xs
theorem Rw.lt {w : World} {e : TypeId} {size : Nat} {v : Value} {n : Nat} {xs : List Value} (h : Rw w e size v n xs) {k : Nat} (hk : v.ownBlock = some k) : k < w.heap.size := (World.ownsRow.lt h k hk).2
theorem Rw.on {w w' : World} {e : TypeId} {size : Nat} {v : Value} {n : Nat} {xs : List Value} (h : Rw w e size v n xs) (hb : ∀ k, v.ownBlock = some k → w'.heap[k]? = w.heap[k]?) : Rw w' e size v n xs := by
  refine ⟨h.1, ?_⟩
  rcases h.2 with q | ⟨g, cap, cur, rfl, h1, h2, h3⟩
  · exact .inl q
  · exact .inr ⟨g, cap, cur, rfl, h1, (hb g rfl).trans h2, h3⟩
theorem Rw.fr {F : Nat → Prop} {w w' : World} {e : TypeId} {size : Nat} {v : Value} {n : Nat} {xs : List Value} (h : Rw w e size v n xs) (hk : Fr F w w') (hne : ∀ k, v.ownBlock = some k → ¬ F k) : Rw w' e size v n xs :=
  h.on fun k e => hk.block k (h.lt e) (hne k e)
theorem Rw.grown {w w' : World} {e : TypeId} {size : Nat} {v : Value} {n : Nat} {xs : List Value} {row : Option Nat} (h : Rw w e size v n xs) (hg : w.grownBy w' row) (hne : ∀ k, v.ownBlock = some k → some k ≠ row) : Rw w' e size v n xs :=
  h.on fun k e => hg.block k (h.lt e) (hne k e)
theorem Rw.alloc {w : World} {e : TypeId} {size : Nat} {v : Value} {n : Nat} {xs : List Value} (h : Rw w e size v n xs) (o : Obj) : Rw (w.alloc o) e size v n xs := World.ownsRow.alloc h o
theorem Rw.drew {w : World} {e : TypeId} {size : Nat} {v : Value} {n : Nat} {xs : List Value} (h : Rw w e size v n xs) : Rw w.drew e size v n xs := h
theorem Rw.set {w : World} {e : TypeId} {size : Nat} {v : Value} {n : Nat} {xs : List Value} (h : Rw w e size v n xs) {g : Nat} (hne : v.ownBlock ≠ some g) (i : Nat) (u : Value) : Rw (w.setCell ⟨g, i, none⟩ u) e size v n xs :=
  h.on fun k e => Below.heap_setCell w ⟨g, i, none⟩ u k (by show k ≠ g; rintro rfl; exact hne e)
/-- The row's block is of its type: apart from every block of another. -/
theorem Rw.ne {w : World} {e : TypeId} {size : Nat} {v : Value} {n : Nat} {xs : List Value} (h : Rw w e size v n xs) {g : Nat} {cs : Array Value} {t : TypeId} (ho : Own w g cs t) (ht : e ≠ t) : v.ownBlock ≠ some g := by
  rcases h.2 with ⟨rfl, _⟩ | ⟨g', cap, cur, rfl, _, hg, _⟩
  · simp [Value.ownBlock]
  · intro q
    simp [Value.ownBlock] at q
    subst q
    unfold Own at ho
    rw [hg] at ho
    cases ho
    exact ht rfl
theorem Rw.ne2 {w : World} {e e' : TypeId} {size size' : Nat} {v v' : Value} {n n' : Nat} {xs xs' : List Value} (h : Rw w e size v n xs) (h' : Rw w e' size' v' n' xs') (ht : e ≠ e') : ∀ k, v.ownBlock = some k → v'.ownBlock ≠ some k := by
  intro k hk
  rcases h.2 with ⟨rfl, _⟩ | ⟨g, cap, cur, rfl, _, hg, _⟩
  · simp [Value.ownBlock] at hk
  · simp [Value.ownBlock] at hk
    subst hk
    exact h'.ne (show Own w g cur e from hg) (Ne.symm ht)
theorem Rw.shape {w : World} {e : TypeId} {size : Nat} {v : Value} {n : Nat} {xs : List Value} (h : Rw w e size v n xs) : ∃ ao cap, v = .slice ao n cap ∧ n ≤ cap ∧ cap ≤ maxLen := by
  rcases h.2 with ⟨rfl, h0⟩ | ⟨g, cap, cur, rfl, _, hg, h1, h2, _⟩
  · exact ⟨none, 0, by rw [h0], by omega, by unfold maxLen; omega⟩
  · exact ⟨_, cap, rfl, h1, h2⟩
/-- A row that has parts lies in a block. -/
theorem Rw.block {w : World} {e : TypeId} {size : Nat} {v : Value} {n : Nat} {xs : List Value} (h : Rw w e size v n xs) (hn : 0 < n) : ∃ g cap cur, v = .slice (some ⟨g, 0, none⟩) n cap ∧ Own w g cur e ∧ n ≤ cap ∧ cap ≤ maxLen ∧ cur.size = cap * size ∧ cur.toList.take (n * size) = xs := by
  rcases h.2 with ⟨rfl, h0⟩ | ⟨g, cap, cur, rfl, _, hg, h1, h2, h3, h4⟩
  · omega
  · exact ⟨g, cap, cur, rfl, hg, h1, h2, h3, h4⟩
theorem Rw.cells {w : World} {e : TypeId} {size : Nat} {g n cap : Nat} {xs : List Value} (h : Rw w e size (.slice (some ⟨g, 0, none⟩) n cap) n xs) (j : Nat) (u : Value) (hu : xs[j]? = some u) : w.cell? ⟨g, j, none⟩ = some u := by
  have := World.ownsRow.cells h (g := g) rfl j u hu
  have hadd : (⟨g, 0, none⟩ : Addr).add j = ⟨g, j, none⟩ := by unfold Addr.add; split <;> simp_all
  rwa [hadd] at this
theorem ba_eq (a b : ByteArray) : (a.toList == b.toList) = decide (a = b) := by
  rw [ByteArray.toList_eq, ByteArray.toList_eq, Bool.eq_iff_iff]
  simp only [beq_iff_eq, decide_eq_true_eq]
  constructor
  · intro h
    cases a; cases b
    simp only at h
    congr 1
    exact Array.toList_inj.mp h
  · intro h; rw [h]
end Go.Proofs.Ytnnajgbkpilaaaa
