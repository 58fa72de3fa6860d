/-
  THE HEAP AS A VALUE: things, what is used, the limit; what the calls answer; blocks of memory, and what a call keeps.
-/
import Derived.Test.YtchamkiffkngjaaProg
import Derived.WalkKit
import Derived.WalkLawsBesides
import Derived.WalkSpells
import Derived.Handy
import Derived.Outline
import Derived.Below
import Derived.Lib.SmallJoins
import Derived.Maps.AppendAt
import Derived.Maps.Own
import Derived.Maps.Views
namespace Go.Proofs.Ytchamkiffkngjaa
open Go.RowKit
set_option linter.unusedVariables false

/-! ### The model -/
/-- A thing: kind 1 a text, 2 a record, 3 a fixed array, 4 an array that grows. -/
structure Th where
  kind : Nat
  typ : Int
  text : ByteArray
  words : List Int
structure M where
  ths : List Th
  used : Nat
  limit : Nat
def empt : ByteArray := ⟨#[]⟩
def dT : Th := ⟨0, 0, empt, []⟩
def M.new (l : Int) : M := ⟨[], 0, (min (max l 0) 1048576).toNat⟩
def M.pays (m : M) (c : Nat) : Bool := decide (m.used + c ≤ m.limit)
def M.paid (m : M) (c : Nat) : M := if m.used + c ≤ m.limit then { m with used := m.used + c } else m
def M.keep (m : M) (t : Th) : M := { m with ths := m.ths ++ [t] }
/-- A thing more, at a cost. -/
def M.made (m : M) (t : Th) (c : Nat) : M := if m.used + c ≤ m.limit then (m.paid c).keep t else m
def M.madeR (m : M) (c : Nat) : Int := if m.used + c ≤ m.limit then (m.ths.length : Int) + 1 else 0
def M.madeT (m : M) (c : Nat) : Int := if m.used + c ≤ m.limit then 0 else 4
def tText (s : ByteArray) : Th := ⟨1, 5, s, []⟩
def tRec (t : Int) (ws : List Int) : Th := ⟨2, t, empt, ws⟩
def tFix (t : Int) (n : Nat) (x : Int) : Th := ⟨3, t, empt, List.replicate n x⟩
def tGrow (t : Int) : Th := ⟨4, t, empt, []⟩
def cText (s : ByteArray) : Nat := 1 + (s.size + 7) / 8
/-- The thing of a reference; one of kind 0, if there is none. -/
def M.at (m : M) (ref : Int) : Th := if 1 ≤ ref then m.ths.getD (ref - 1).toNat dT else dT
def M.has (m : M) (ref i : Int) : Bool := decide ((m.at ref).kind ≠ 1 ∧ 0 ≤ i ∧ i < (m.at ref).words.length)
def M.getV (m : M) (ref i : Int) : Int := if m.has ref i then (m.at ref).words.getD i.toNat 0 else 0
def M.getT (m : M) (ref i : Int) : Int := if m.has ref i then 0 else 2
def M.upd (m : M) (ref : Int) (t : Th) : M := { m with ths := m.ths.set (ref - 1).toNat t }
def Th.with (t : Th) (ws : List Int) : Th := { t with words := ws }
def M.put (m : M) (ref i x : Int) : M := if m.has ref i then m.upd ref ((m.at ref).with ((m.at ref).words.set i.toNat x)) else m
def M.pushT (m : M) (ref : Int) : Int := if (m.at ref).kind ≠ 4 then 2 else if (m.at ref).words.length = 65536 then 3 else m.madeT 1
def M.pushed (m : M) (ref x : Int) : M := if m.pushT ref = 0 then (m.paid 1).upd ref ((m.at ref).with ((m.at ref).words ++ [x])) else m
def M.dropT (m : M) (ref : Int) : Int := if (m.at ref).kind ≠ 4 then 2 else if (m.at ref).words = [] then 7 else 0
def M.dropV (m : M) (ref : Int) : Int := if m.dropT ref = 0 then (m.at ref).words.getLastD 0 else 0
def M.dropped (m : M) (ref : Int) : M := if m.dropT ref = 0 then m.upd ref ((m.at ref).with (m.at ref).words.dropLast) else m
def Th.len (t : Th) : Nat := if t.kind = 1 then t.text.size else t.words.length

/-! ### What holds of every heap -/
structure Inv (m : M) : Prop where
  used : m.used ≤ m.limit
  limit : m.limit ≤ 1048576
  kind : ∀ t ∈ m.ths, 1 ≤ t.kind ∧ t.kind ≤ 4
  words : ∀ t ∈ m.ths, t.words.length ≤ m.used
  grow : ∀ t ∈ m.ths, t.kind = 4 → t.words.length ≤ 65536
  text : ∀ t ∈ m.ths, t.text.size ≤ maxLen
  plain : ∀ t ∈ m.ths, t.kind = 1 → t.words = []
  bits : ∀ t ∈ m.ths, ∀ x ∈ t.words, 0 ≤ x ∧ x < 18446744073709551616
theorem Inv.new (l : Int) : Inv (M.new l) := ⟨Nat.zero_le _, by simp [M.new]; omega, by simp [M.new], by simp [M.new], by simp [M.new], by simp [M.new], by simp [M.new], by simp [M.new]⟩
theorem Inv.made {m : M} (h : Inv m) (t : Th) (c : Nat) (h1 : 1 ≤ t.kind ∧ t.kind ≤ 4) (h2 : t.words.length ≤ c) (h3 : t.kind = 4 → t.words.length ≤ 65536) (h4 : t.text.size ≤ maxLen) (h5 : t.kind = 1 → t.words = []) (h6 : ∀ x ∈ t.words, 0 ≤ x ∧ x < 18446744073709551616) : Inv (m.made t c) := by
  unfold M.made
  split
  · rename_i hc
    have e : (m.paid c).keep t = ⟨m.ths ++ [t], m.used + c, m.limit⟩ := by simp [M.paid, M.keep, hc]
    rw [e]
    refine ⟨hc, h.limit, ?_, ?_, ?_, ?_, ?_, ?_⟩
    all_goals (intro u hu; rcases List.mem_append.1 hu with hu | hu)
    · exact h.kind u hu
    · rw [List.mem_singleton.1 hu]; exact h1
    · have := h.words u hu; show u.words.length ≤ m.used + c; omega
    · rw [List.mem_singleton.1 hu]; show t.words.length ≤ m.used + c; omega
    · exact h.grow u hu
    · rw [List.mem_singleton.1 hu]; exact h3
    · exact h.text u hu
    · rw [List.mem_singleton.1 hu]; exact h4
    · exact h.plain u hu
    · rw [List.mem_singleton.1 hu]; exact h5
    · exact h.bits u hu
    · rw [List.mem_singleton.1 hu]; exact h6
  · exact h
theorem at_some {m : M} {ref : Int} (h : 1 ≤ ref) (h2 : ref ≤ m.ths.length) : ∃ k, k < m.ths.length ∧ ref = (k : Int) + 1 ∧ m.ths[k]? = some (m.at ref) := by
  refine ⟨(ref - 1).toNat, by omega, by omega, ?_⟩
  have hk : (ref - 1).toNat < m.ths.length := by omega
  unfold M.at
  rw [if_pos h, List.getD_eq_getElem?_getD, List.getElem?_eq_getElem hk]; rfl
theorem at_none {m : M} {ref : Int} (h : ref < 1 ∨ (m.ths.length : Int) < ref) : m.at ref = dT := by
  unfold M.at
  split
  · rw [List.getD_eq_getElem?_getD, List.getElem?_eq_none (by omega)]; rfl
  · rfl
theorem at_mem {m : M} {ref : Int} (h : (m.at ref).kind ≠ 0) : 1 ≤ ref ∧ ref ≤ m.ths.length := by
  by_cases h1 : ref < 1 ∨ (m.ths.length : Int) < ref
  · rw [at_none h1] at h; exact absurd rfl h
  · omega
theorem at_kind {m : M} (hi : Inv m) {ref : Int} (h : 1 ≤ ref) (h2 : ref ≤ m.ths.length) : 1 ≤ (m.at ref).kind ∧ (m.at ref).kind ≤ 4 := by
  obtain ⟨k, _, _, e⟩ := at_some h h2
  exact hi.kind _ (List.mem_of_getElem? e)
theorem mem_upd {m : M} {ref : Int} {t u : Th} (h : u ∈ (m.upd ref t).ths) : u ∈ m.ths ∨ u = t := by
  rcases List.mem_or_eq_of_mem_set h with q | q
  · exact .inl q
  · exact .inr q
theorem Inv.upd {m : M} (h : Inv m) (ref : Int) (ws : List Int) (hk : (m.at ref).kind ≠ 0) (h2 : ws.length ≤ m.used) (h3 : (m.at ref).kind = 4 → ws.length ≤ 65536) (h5 : (m.at ref).kind ≠ 1) (h6 : ∀ x ∈ ws, 0 ≤ x ∧ x < 18446744073709551616) : Inv (m.upd ref ((m.at ref).with ws)) := by
  obtain ⟨a1, a2⟩ := at_mem hk
  obtain ⟨k, _, _, e⟩ := at_some a1 a2
  have hm := List.mem_of_getElem? e
  refine ⟨h.used, h.limit, ?_, ?_, ?_, ?_, ?_, ?_⟩
  all_goals (intro u hu; rcases mem_upd hu with hu | rfl)
  · exact h.kind u hu
  · exact (h.kind (m.at ref) hm : _)
  · exact h.words u hu
  · exact h2
  · exact h.grow u hu
  · exact h3
  · exact h.text u hu
  · exact (h.text (m.at ref) hm : _)
  · exact h.plain u hu
  · exact fun q => absurd q h5
  · exact h.bits u hu
  · exact h6
theorem Inv.paid {m : M} (h : Inv m) (c : Nat) : Inv (m.paid c) := by
  unfold M.paid
  split
  · rename_i hc
    exact ⟨hc, h.limit, h.kind, fun t ht => by have := h.words t ht; show t.words.length ≤ m.used + c; omega, h.grow, h.text, h.plain, h.bits⟩
  · exact h
theorem has_iff {m : M} {ref i : Int} : m.has ref i = true ↔ (m.at ref).kind ≠ 1 ∧ 0 ≤ i ∧ i < (m.at ref).words.length := by simp [M.has]
theorem has_kind {m : M} (hi : Inv m) {ref i : Int} (h : m.has ref i = true) : (m.at ref).kind ≠ 0 := by
  obtain ⟨_, h2, h3⟩ := has_iff.1 h
  by_cases q : ref < 1 ∨ (m.ths.length : Int) < ref
  · rw [at_none q] at h3; simp [dT] at h3; omega
  · have := at_kind hi (ref := ref) (by omega) (by omega)
    omega
theorem Inv.put {m : M} (h : Inv m) (ref i x : Int) (hx : 0 ≤ x ∧ x < 18446744073709551616) : Inv (m.put ref i x) := by
  unfold M.put
  split
  · rename_i hh
    obtain ⟨h1, h2, h3⟩ := has_iff.1 hh
    have hk := has_kind h hh
    obtain ⟨a1, a2⟩ := at_mem hk
    obtain ⟨k, _, _, e⟩ := at_some a1 a2
    have hm := List.mem_of_getElem? e
    refine h.upd ref _ hk (by rw [List.length_set]; exact h.words _ hm) (fun q => by rw [List.length_set]; exact h.grow _ hm q) h1 (fun y hy => ?_)
    rcases List.mem_or_eq_of_mem_set hy with q | q
    · exact h.bits _ hm y q
    · rw [q]; exact hx
  · exact h
theorem pushT_zero {m : M} {ref : Int} (h : m.pushT ref = 0) : (m.at ref).kind = 4 ∧ (m.at ref).words.length ≠ 65536 ∧ m.used + 1 ≤ m.limit := by
  unfold M.pushT at h
  split at h
  · omega
  · rename_i h1
    split at h
    · omega
    · rename_i h2
      unfold M.madeT at h
      split at h
      · rename_i h3; exact ⟨Classical.not_not.1 h1, h2, h3⟩
      · omega
theorem Inv.pushed {m : M} (h : Inv m) (ref x : Int) (hx : 0 ≤ x ∧ x < 18446744073709551616) : Inv (m.pushed ref x) := by
  unfold M.pushed
  split
  · rename_i hp
    obtain ⟨h1, h2, h3⟩ := pushT_zero hp
    have hk : (m.at ref).kind ≠ 0 := by omega
    obtain ⟨a1, a2⟩ := at_mem hk
    obtain ⟨k, _, _, e⟩ := at_some a1 a2
    have hm := List.mem_of_getElem? e
    have ep : m.paid 1 = ⟨m.ths, m.used + 1, m.limit⟩ := by simp [M.paid, h3]
    have := h.grow _ hm h1
    have := h.words _ hm
    have hq : Inv ((m.paid 1).upd ref (((m.paid 1).at ref).with ((m.at ref).words ++ [x]))) := by
      refine (h.paid 1).upd ref _ ?_ ?_ ?_ ?_ ?_
      · rw [ep]; exact hk
      · rw [ep, List.length_append]; show (m.at ref).words.length + 1 ≤ m.used + 1; omega
      · intro _; rw [List.length_append]; show (m.at ref).words.length + 1 ≤ 65536; omega
      · rw [ep]; show (m.at ref).kind ≠ 1; omega
      · intro y hy
        rcases List.mem_append.1 hy with q | q
        · exact h.bits _ hm y q
        · rw [List.mem_singleton.1 q]; exact hx
    have ea : (m.paid 1).at ref = m.at ref := by rw [ep]; rfl
    rwa [ea] at hq
  · exact h
theorem dropT_zero {m : M} {ref : Int} (h : m.dropT ref = 0) : (m.at ref).kind = 4 ∧ (m.at ref).words ≠ [] := by
  unfold M.dropT at h
  split at h
  · omega
  · rename_i h1
    split at h
    · omega
    · rename_i h2; exact ⟨Classical.not_not.1 h1, h2⟩
theorem Inv.dropped {m : M} (h : Inv m) (ref : Int) : Inv (m.dropped ref) := by
  unfold M.dropped
  split
  · rename_i hp
    obtain ⟨h1, h2⟩ := dropT_zero hp
    have hk : (m.at ref).kind ≠ 0 := by omega
    obtain ⟨a1, a2⟩ := at_mem hk
    obtain ⟨k, _, _, e⟩ := at_some a1 a2
    have hm := List.mem_of_getElem? e
    have := h.grow _ hm h1
    have := h.words _ hm
    refine h.upd ref _ hk ?_ ?_ ?_ ?_
    · rw [List.length_dropLast]; omega
    · intro _; rw [List.length_dropLast]; omega
    · omega
    · intro y hy
      exact h.bits _ hm y (List.dropLast_subset _ hy)
  · exact h
/-! ### Blocks of memory -/
def Own (w : World) (g : Nat) (cs : Array Value) (t : TypeId) : Prop := w.heap[g]? = some (Obj.cells cs t (0, 0))
theorem Own.lt {w : World} {g : Nat} {cs : Array Value} {t : TypeId} (h : Own w g cs t) : g < w.heap.size := (Array.getElem?_eq_some_iff.1 h).1
theorem Own.new (w : World) (cs : Array Value) (t : TypeId) : Own (w.alloc (.cells cs t)) w.heap.size cs t := heap_alloc_new w _
theorem Own.alloc {w : World} {g : Nat} {cs : Array Value} {t : TypeId} (h : Own w g cs t) (o : Obj) : Own (w.alloc o) g cs t := (Below.heap_alloc w o g h.lt).trans h
theorem Own.drew {w : World} {g : Nat} {cs : Array Value} {t : TypeId} (h : Own w g cs t) : Own w.drew g cs t := h
theorem Own.other {w : World} {g g' i : Nat} {cs : Array Value} {t : TypeId} (h : Own w g cs t) (hne : g ≠ g') (u : Value) : Own (w.setCell ⟨g', i, none⟩ u) g cs t := (Below.heap_setCell w ⟨g', i, none⟩ u g hne).trans h
theorem Own.ne {w : World} {g g' : Nat} {cs cs' : Array Value} {t t' : TypeId} (h : Own w g cs t) (h' : Own w g' cs' t') (ht : t ≠ t') : g ≠ g' := by
  rintro rfl
  unfold Own at h h'
  rw [h] at h'
  cases h'
  exact ht rfl
theorem heap_set (w : World) (g i : Nat) (cs : Array Value) (t : TypeId) (fr : Nat × Nat) (b : Value) (h : w.heap[g]? = some (.cells cs t fr)) :
    (w.setCell ⟨g, i, none⟩ b).heap[g]? = some (.cells (cs.setIfInBounds i b) t fr) := by
  simp [World.setCell, Array.getElem?_modify, h]
theorem Own.set {w : World} {g : Nat} {cs : Array Value} {t : TypeId} (h : Own w g cs t) (i : Nat) (u : Value) : Own (w.setCell ⟨g, i, none⟩ u) g (cs.setIfInBounds i u) t := heap_set w g i _ t (0, 0) u h
theorem Own.cell {w : World} {g : Nat} {cs : Array Value} {t : TypeId} (h : Own w g cs t) (i : Nat) : w.cell? ⟨g, i, none⟩ = cs[i]? := cell_of_row _ g i _ _ _ h
theorem Own.froz {w : World} {g : Nat} {cs : Array Value} {t : TypeId} (h : Own w g cs t) (i : Nat) : w.frozen? ⟨g, i, none⟩ = false := by unfold Own at h; simp [World.frozen?, h]

/-! ### What a call keeps: all old blocks but those of F -/
structure Fr (F : Nat → Prop) (w w' : World) : Prop where
  os : w'.os = w.os
  tape : w'.tape = w.tape
  output : w'.output = w.output
  size : w.heap.size ≤ w'.heap.size
  block : ∀ k, k < w.heap.size → ¬ F k → w'.heap[k]? = w.heap[k]?
theorem Fr.refl (F : Nat → Prop) (w : World) : Fr F w w := ⟨rfl, rfl, rfl, Nat.le_refl _, fun _ _ _ => rfl⟩
theorem Fr.trans {F : Nat → Prop} {a b c : World} (h : Fr F a b) (k : Fr F b c) : Fr F a c :=
  ⟨k.os.trans h.os, k.tape.trans h.tape, k.output.trans h.output, Nat.le_trans h.size k.size, fun i hi hn => (k.block i (Nat.lt_of_lt_of_le hi h.size) hn).trans (h.block i hi hn)⟩
theorem Fr.mono {F G : Nat → Prop} {a b : World} (h : Fr F a b) (hg : ∀ k, k < a.heap.size → F k → G k) : Fr G a b := ⟨h.os, h.tape, h.output, h.size, fun k hk hn => h.block k hk fun e => hn (hg k hk e)⟩
/-- One behind the other, the second one with blocks that the first has made. -/
theorem Fr.then {F G : Nat → Prop} {a b c : World} (h : Fr F a b) (k : Fr G b c) (hg : ∀ i, i < a.heap.size → G i → F i) : Fr F a c :=
  ⟨k.os.trans h.os, k.tape.trans h.tape, k.output.trans h.output, Nat.le_trans h.size k.size, fun i hi hn => (k.block i (Nat.lt_of_lt_of_le hi h.size) fun e => hn (hg i hi e)).trans (h.block i hi hn)⟩
theorem Fr.of {F : Nat → Prop} {w w' : World} (h : Below w.heap.size w w') : Fr F w w' := ⟨h.os, h.tape, h.output, h.size, fun k hk _ => h.block k hk⟩
theorem Fr.alloc {F : Nat → Prop} {a w : World} (h : Fr F a w) (o : Obj) : Fr F a (w.alloc o) := h.trans (Fr.of ((Below.refl _ _).alloc (Nat.le_refl _) o))
theorem Fr.drew {F : Nat → Prop} {a w : World} (h : Fr F a w) : Fr F a w.drew := ⟨h.os, h.tape, h.output, h.size, h.block⟩
theorem Fr.set {F : Nat → Prop} {a w : World} (h : Fr F a w) {g : Nat} (hg : a.heap.size ≤ g ∨ F g) (i : Nat) (u : Value) : Fr F a (w.setCell ⟨g, i, none⟩ u) :=
  ⟨h.os, h.tape, h.output, Nat.le_trans h.size (by simp [World.setCell]), fun k hk hn => (Below.heap_setCell w ⟨g, i, none⟩ u k (by show k ≠ g; rintro rfl; rcases hg with hg | hg; omega; exact hn hg)).trans (h.block k hk hn)⟩
theorem Fr.grown {F : Nat → Prop} {a w w' : World} {row : Option Nat} (h : Fr F a w) (hg : w.grownBy w' row) (hr : ∀ k, k < a.heap.size → row = some k → F k) : Fr F a w' :=
  ⟨hg.os.trans h.os, hg.tape.trans h.tape, hg.output.trans h.output, Nat.le_trans h.size hg.size, fun k hk hn => (hg.block k (Nat.lt_of_lt_of_le hk h.size) (fun e => hn (hr k hk e.symm))).trans (h.block k hk hn)⟩
theorem Fr.below {w w' : World} (h : Fr (fun _ => False) w w') : Below w.heap.size w w' := ⟨h.os, h.tape, h.output, h.size, fun k hk => h.block k hk fun e => e⟩
theorem Own.fr {F : Nat → Prop} {w w' : World} {g : Nat} {cs : Array Value} {t : TypeId} (h : Own w g cs t) (hk : Fr F w w') (hne : ¬ F g) : Own w' g cs t := (hk.block g h.lt hne).trans h
theorem Own.grown {w w' : World} {g : Nat} {cs : Array Value} {t : TypeId} {row : Option Nat} (h : Own w g cs t) (hg : w.grownBy w' row) (hne : some g ≠ row) : Own w' g cs t := (hg.block g h.lt hne).trans h
theorem Own.below {w w' : World} {g : Nat} {cs : Array Value} {t : TypeId} (h : Own w g cs t) (hk : Below w.heap.size w w') : Own w' g cs t := (hk.block g h.lt).trans h

/-! ### Rows of the call's own -/
/-- A row of n parts of type e: in a block that holds such parts alone. -/
def Rw (w : World) (e : TypeId) (size : Nat) (v : Value) (n : Nat) (xs : List Value) : Prop := w.ownsRow 0 e size v n xs
theorem Rw.lt {w : World} {e : TypeId} {size : Nat} {v : Value} {n : Nat} {xs : List Value} (h : Rw w e size v n xs) {k : Nat} (hk : v.ownBlock = some k) : k < w.heap.size := (World.ownsRow.lt h k hk).2
theorem Rw.on {w w' : World} {e : TypeId} {size : Nat} {v : Value} {n : Nat} {xs : List Value} (h : Rw w e size v n xs) (hb : ∀ k, v.ownBlock = some k → w'.heap[k]? = w.heap[k]?) : Rw w' e size v n xs := by
  refine ⟨h.1, ?_⟩
  rcases h.2 with q | ⟨g, cap, cur, rfl, h1, h2, h3⟩
  · exact .inl q
  · exact .inr ⟨g, cap, cur, rfl, h1, (hb g rfl).trans h2, h3⟩
theorem Rw.fr {F : Nat → Prop} {w w' : World} {e : TypeId} {size : Nat} {v : Value} {n : Nat} {xs : List Value} (h : Rw w e size v n xs) (hk : Fr F w w') (hne : ∀ k, v.ownBlock = some k → ¬ F k) : Rw w' e size v n xs :=
  h.on fun k e => hk.block k (h.lt e) (hne k e)
theorem Rw.grown {w w' : World} {e : TypeId} {size : Nat} {v : Value} {n : Nat} {xs : List Value} {row : Option Nat} (h : Rw w e size v n xs) (hg : w.grownBy w' row) (hne : ∀ k, v.ownBlock = some k → some k ≠ row) : Rw w' e size v n xs :=
  h.on fun k e => hg.block k (h.lt e) (hne k e)
theorem Rw.alloc {w : World} {e : TypeId} {size : Nat} {v : Value} {n : Nat} {xs : List Value} (h : Rw w e size v n xs) (o : Obj) : Rw (w.alloc o) e size v n xs := World.ownsRow.alloc h o
theorem Rw.drew {w : World} {e : TypeId} {size : Nat} {v : Value} {n : Nat} {xs : List Value} (h : Rw w e size v n xs) : Rw w.drew e size v n xs := h
theorem Rw.set {w : World} {e : TypeId} {size : Nat} {v : Value} {n : Nat} {xs : List Value} (h : Rw w e size v n xs) {g : Nat} (hne : v.ownBlock ≠ some g) (i : Nat) (u : Value) : Rw (w.setCell ⟨g, i, none⟩ u) e size v n xs :=
  h.on fun k e => Below.heap_setCell w ⟨g, i, none⟩ u k (by show k ≠ g; rintro rfl; exact hne e)
/-- The row's block is of its type: apart from every block of another. -/
theorem Rw.ne {w : World} {e : TypeId} {size : Nat} {v : Value} {n : Nat} {xs : List Value} (h : Rw w e size v n xs) {g : Nat} {cs : Array Value} {t : TypeId} (ho : Own w g cs t) (ht : e ≠ t) : v.ownBlock ≠ some g := by
  rcases h.2 with ⟨rfl, _⟩ | ⟨g', cap, cur, rfl, _, hg, _⟩
  · simp [Value.ownBlock]
  · intro q
    simp [Value.ownBlock] at q
    subst q
    unfold Own at ho
    rw [hg] at ho
    cases ho
    exact ht rfl
theorem Rw.ne2 {w : World} {e e' : TypeId} {size size' : Nat} {v v' : Value} {n n' : Nat} {xs xs' : List Value} (h : Rw w e size v n xs) (h' : Rw w e' size' v' n' xs') (ht : e ≠ e') : ∀ k, v.ownBlock = some k → v'.ownBlock ≠ some k := by
  intro k hk
  rcases h.2 with ⟨rfl, _⟩ | ⟨g, cap, cur, rfl, _, hg, _⟩
  · simp [Value.ownBlock] at hk
  · simp [Value.ownBlock] at hk
    subst hk
    exact h'.ne (show Own w g cur e from hg) (Ne.symm ht)
theorem Rw.shape {w : World} {e : TypeId} {size : Nat} {v : Value} {n : Nat} {xs : List Value} (h : Rw w e size v n xs) : ∃ ao cap, v = .slice ao n cap ∧ n ≤ cap ∧ cap ≤ maxLen := by
  rcases h.2 with ⟨rfl, h0⟩ | ⟨g, cap, cur, rfl, _, hg, h1, h2, _⟩
  · exact ⟨none, 0, by rw [h0], by omega, by unfold maxLen; omega⟩
  · exact ⟨_, cap, rfl, h1, h2⟩
/-- A row that has parts lies in a block. -/
theorem Rw.block {w : World} {e : TypeId} {size : Nat} {v : Value} {n : Nat} {xs : List Value} (h : Rw w e size v n xs) (hn : 0 < n) : ∃ g cap cur, v = .slice (some ⟨g, 0, none⟩) n cap ∧ Own w g cur e ∧ n ≤ cap ∧ cap ≤ maxLen ∧ cur.size = cap * size ∧ cur.toList.take (n * size) = xs := by
  rcases h.2 with ⟨rfl, h0⟩ | ⟨g, cap, cur, rfl, _, hg, h1, h2, h3, h4⟩
  · omega
  · exact ⟨g, cap, cur, rfl, hg, h1, h2, h3, h4⟩
theorem Rw.cells {w : World} {e : TypeId} {size : Nat} {g n cap : Nat} {xs : List Value} (h : Rw w e size (.slice (some ⟨g, 0, none⟩) n cap) n xs) (j : Nat) (u : Value) (hu : xs[j]? = some u) : w.cell? ⟨g, j, none⟩ = some u := by
  have := World.ownsRow.cells h (g := g) rfl j u hu
  have hadd : (⟨g, 0, none⟩ : Addr).add j = ⟨g, j, none⟩ := by unfold Addr.add; split <;> simp_all
  rwa [hadd] at this
theorem ba_eq (a b : ByteArray) : (a.toList == b.toList) = decide (a = b) := by
  rw [ByteArray.toList_eq, ByteArray.toList_eq, Bool.eq_iff_iff]
  simp only [beq_iff_eq, decide_eq_true_eq]
  constructor
  · intro h
    cases a; cases b
    simp only at h
    congr 1
    exact Array.toList_inj.mp h
  · intro h; rw [h]
theorem Own.drewN {w : World} {g : Nat} {cs : Array Value} {t : TypeId} (h : Own w g cs t) (q : Nat) : Own (w.drewN q) g cs t := h
theorem Fr.drewN {F : Nat → Prop} {a w : World} (h : Fr F a w) (q : Nat) : Fr F a (w.drewN q) := ⟨h.os, h.tape, h.output, h.size, h.block⟩
theorem Rw.drewN {w : World} {e : TypeId} {size : Nat} {v : Value} {n : Nat} {xs : List Value} (h : Rw w e size v n xs) (q : Nat) : Rw (w.drewN q) e size v n xs := h
theorem below_drewN (w : World) (q : Nat) : Below w.heap.size w (w.drewN q) := ⟨rfl, rfl, rfl, Nat.le_refl _, fun _ _ => rfl⟩
theorem own1 {w : World} {g : Nat} {a0 : Value} {t : TypeId} (h : Own w g #[a0] t) : w.cell? ⟨g, 0, none⟩ = some a0 ∧ ∀ j, w.frozen? ⟨g, j, none⟩ = false := ⟨h.cell 0, h.froz⟩
theorem own2 {w : World} {g : Nat} {a0 a1 : Value} {t : TypeId} (h : Own w g #[a0, a1] t) : w.cell? ⟨g, 0, none⟩ = some a0 ∧ w.cell? ⟨g, 1, none⟩ = some a1 ∧ ∀ j, w.frozen? ⟨g, j, none⟩ = false := ⟨h.cell 0, h.cell 1, h.froz⟩
theorem own3 {w : World} {g : Nat} {a0 a1 a2 : Value} {t : TypeId} (h : Own w g #[a0, a1, a2] t) : w.cell? ⟨g, 0, none⟩ = some a0 ∧ w.cell? ⟨g, 1, none⟩ = some a1 ∧ w.cell? ⟨g, 2, none⟩ = some a2 ∧ ∀ j, w.frozen? ⟨g, j, none⟩ = false := ⟨h.cell 0, h.cell 1, h.cell 2, h.froz⟩
theorem own4 {w : World} {g : Nat} {a0 a1 a2 a3 : Value} {t : TypeId} (h : Own w g #[a0, a1, a2, a3] t) : w.cell? ⟨g, 0, none⟩ = some a0 ∧ w.cell? ⟨g, 1, none⟩ = some a1 ∧ w.cell? ⟨g, 2, none⟩ = some a2 ∧ w.cell? ⟨g, 3, none⟩ = some a3 ∧ ∀ j, w.frozen? ⟨g, j, none⟩ = false := ⟨h.cell 0, h.cell 1, h.cell 2, h.cell 3, h.froz⟩
abbrev ptr (p : Nat) : Value := .pointer (some ⟨p, 0, none⟩)
theorem addr_add (b j : Nat) : (⟨b, 0, none⟩ : Addr).add j = ⟨b, j, none⟩ := by unfold Addr.add; split <;> simp_all
end Go.Proofs.Ytchamkiffkngjaa
