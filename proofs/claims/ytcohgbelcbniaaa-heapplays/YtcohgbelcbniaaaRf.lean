/-
  THE DOCUMENT'S OWN HEAP IN MEMORY: its block, the row of its things, the row of each thing's words.
-/
import Derived.Test.YtcohgbelcbniaaaOps
namespace Go.Proofs.Ytcohgbelcbniaaa
open Go.RowKit
set_option linter.unusedVariables false

def rc (t : Th) (v : Value) : List Value := [.int .i64 (t.kind : Int), .int .i64 t.typ, .string t.text, v]
def rcells (vs : Nat → Value) (ths : List Th) : List Value := (ths.mapIdx fun i t => rc t (vs i)).flatten
theorem flat4_length : ∀ (l : List (List Value)), (∀ c ∈ l, c.length = 4) → l.flatten.length = l.length * 4
  | [], _ => rfl
  | c :: r, h => by
    rw [List.flatten_cons, List.length_append, h c (List.mem_cons_self ..), flat4_length r fun x hx => h x (List.mem_cons_of_mem _ hx), List.length_cons]; omega
theorem flat4_get : ∀ (l : List (List Value)) (k j : Nat) (c : List Value), (∀ c ∈ l, c.length = 4) → l[k]? = some c → j < 4 → l.flatten[k * 4 + j]? = c[j]?
  | c :: r, 0, j, d, h, hk, hj => by
    simp at hk; subst hk
    have := h c (List.mem_cons_self ..)
    rw [List.flatten_cons, Nat.zero_mul, Nat.zero_add, List.getElem?_append_left (by omega)]
  | c :: r, k + 1, j, d, h, hk, hj => by
    have h4 := h c (List.mem_cons_self ..)
    rw [List.flatten_cons, List.getElem?_append_right (by omega), h4, show (k + 1) * 4 + j - 4 = k * 4 + j by omega]
    exact flat4_get r k j d (fun x hx => h x (List.mem_cons_of_mem _ hx)) (by simpa using hk) hj
  | [], _, _, _, _, hk, _ => by simp at hk
theorem rc4 (vs : Nat → Value) (ths : List Th) : ∀ c ∈ ths.mapIdx (fun i t => rc t (vs i)), c.length = 4 := by
  intro c hc
  obtain ⟨i, hi, rfl⟩ := List.mem_mapIdx.1 hc
  rfl
theorem rcells_length (vs : Nat → Value) (ths : List Th) : (rcells vs ths).length = ths.length * 4 := by
  unfold rcells
  rw [flat4_length _ (rc4 vs ths), List.length_mapIdx]
theorem rcells_get (vs : Nat → Value) (ths : List Th) (k j : Nat) (t : Th) (h : ths[k]? = some t) (hj : j < 4) : (rcells vs ths)[k * 4 + j]? = (rc t (vs k))[j]? := by
  refine flat4_get _ k j _ (rc4 vs ths) ?_ hj
  rw [List.getElem?_mapIdx, h]; rfl
theorem rcells_snoc (vs vs' : Nat → Value) (ths : List Th) (t : Th) (v : Value) (h : ∀ i, i < ths.length → vs' i = vs i) (hn : vs' ths.length = v) : rcells vs' (ths ++ [t]) = rcells vs ths ++ rc t v := by
  unfold rcells
  rw [List.mapIdx_append, List.flatten_append]
  congr 1
  · congr 1
    apply List.ext_getElem?
    intro i
    rw [List.getElem?_mapIdx, List.getElem?_mapIdx]
    by_cases hi : i < ths.length
    · rw [h i hi]
    · rw [List.getElem?_eq_none (by omega)]; rfl
  · simp [hn]
theorem div_mod4 (i : Nat) : i = i / 4 * 4 + i % 4 ∧ i % 4 < 4 := ⟨by omega, by omega⟩
theorem rcells_set (vs : Nat → Value) (ths : List Th) (k : Nat) (t0 t : Th) (v : Value) (h0 : ths[k]? = some t0) (hk : t.kind = t0.kind) (ht : t.typ = t0.typ) (hx : t.text = t0.text) : rcells (fun i => if i = k then v else vs i) (ths.set k t) = (rcells vs ths).set (k * 4 + 3) v := by
  obtain ⟨hkl, e0⟩ := List.getElem?_eq_some_iff.1 h0
  apply List.ext_getElem?
  intro i
  obtain ⟨e, hj⟩ := div_mod4 i
  generalize i / 4 = a at *
  generalize i % 4 = j at *
  subst e
  by_cases ha : a < ths.length
  · have ea := List.getElem?_eq_getElem ha
    by_cases hak : a = k
    · subst hak
      have hL : rc t (if a = a then v else vs a) = rc t v := by rw [if_pos rfl]
      rw [rcells_get _ _ a j t (by rw [List.getElem?_set_self ha]) hj, hL, List.getElem?_set]
      have e3 := rcells_get vs ths a j t0 h0 hj
      rcases (show j = 0 ∨ j = 1 ∨ j = 2 ∨ j = 3 by omega) with rfl | rfl | rfl | rfl
      · rw [if_neg (by omega), e3]; simp [rc, hk]
      · rw [if_neg (by omega), e3]; simp [rc, ht]
      · rw [if_neg (by omega), e3]; simp [rc, hx]
      · rw [if_pos rfl, if_pos (by rw [rcells_length]; omega)]; simp [rc]
    · rw [rcells_get _ _ a j ths[a] (by rw [List.getElem?_set_ne (Ne.symm hak)]; exact ea) hj, List.getElem?_set_ne (by omega), rcells_get vs ths a j _ ea hj, if_neg hak]
  · rw [List.getElem?_eq_none (by rw [rcells_length, List.length_set]; omega), List.getElem?_eq_none (by rw [List.length_set, rcells_length]; omega)]
theorem rcells_words (vs : Nat → Value) (ths : List Th) (k : Nat) (t0 t : Th) (h0 : ths[k]? = some t0) (hk : t.kind = t0.kind) (ht : t.typ = t0.typ) (hx : t.text = t0.text) : rcells vs (ths.set k t) = rcells vs ths := by
  have e := rcells_set vs ths k t0 t (vs k) h0 hk ht hx
  have e1 : (fun i => if i = k then vs k else vs i) = vs := by funext i; by_cases h : i = k; rw [if_pos h, h]; rw [if_neg h]
  rw [e1] at e
  rw [e]
  apply List.ext_getElem?
  intro i
  rw [List.getElem?_set]
  split
  · rename_i h
    subst h
    rw [rcells_get vs ths k 3 t0 h0 (by omega), if_pos (by rw [rcells_length]; have := (List.getElem?_eq_some_iff.1 h0).1; omega)]; rfl
  · rfl
structure ROwn (w : World) (q : Nat) (m : M) (vt : Value) (vs : Nat → Value) : Prop where
  own : Own w q #[vt, .int .i64 (m.used : Int), .int .i64 (m.limit : Int)] 36
  row : Rw w 88 4 vt m.ths.length (rcells vs m.ths)
  rows : ∀ i t, m.ths[i]? = some t → Rw w 24 1 (vs i) t.words.length (wordV t.words)
  injV : ∀ i j g, i < m.ths.length → j < m.ths.length → (vs i).ownBlock = some g → (vs j).ownBlock = some g → i = j
def RBlk (q n : Nat) (vt : Value) (vs : Nat → Value) (b : Nat) : Prop := b = q ∨ vt.ownBlock = some b ∨ ∃ i, i < n ∧ (vs i).ownBlock = some b
theorem ROwn.on {w w' : World} {q : Nat} {m : M} {vt : Value} {vs : Nat → Value} (h : ROwn w q m vt vs) (hb : ∀ b, RBlk q m.ths.length vt vs b → w'.heap[b]? = w.heap[b]?) : ROwn w' q m vt vs :=
  ⟨(hb q (.inl rfl)).trans h.own, h.row.on fun k e => hb k (.inr (.inl e)), fun i t ht => (h.rows i t ht).on fun g hg => hb g (.inr (.inr ⟨i, (List.getElem?_eq_some_iff.1 ht).1, hg⟩)), h.injV⟩
theorem ROwn.bd {w : World} {q : Nat} {m : M} {vt : Value} {vs : Nat → Value} (h : ROwn w q m vt vs) : ∀ b, RBlk q m.ths.length vt vs b → b < w.heap.size := by
  rintro b (rfl | hb | ⟨i, hi, hb⟩)
  · exact h.own.lt
  · exact h.row.lt hb
  · exact (h.rows i _ (List.getElem?_eq_getElem hi)).lt hb
theorem ROwn.apart {w : World} {q : Nat} {m : M} {vt : Value} {vs : Nat → Value} (h : ROwn w q m vt vs) {i : Nat} (hi : i < m.ths.length) : (vs i).ownBlock ≠ some q ∧ ∀ g, (vs i).ownBlock = some g → vt.ownBlock ≠ some g := by
  have ht := h.rows i _ (List.getElem?_eq_getElem hi)
  exact ⟨ht.ne h.own (by decide), fun g hg e => h.row.ne2 ht (by decide) g e hg⟩
def RAt (w : World) (q : Nat) (m : M) (F : Nat → Prop) : Prop := ∃ vt vs, ROwn w q m vt vs ∧ (∀ b, RBlk q m.ths.length vt vs b → F b) ∧ (∀ b, F b → b < w.heap.size)
theorem RAt.fr {w w' : World} {q : Nat} {m : M} {F G : Nat → Prop} (h : RAt w q m F) (hf : Fr G w w') (hd : ∀ b, F b → G b → False) : RAt w' q m F := by
  obtain ⟨vt, vs, h1, h2, h3⟩ := h
  exact ⟨vt, vs, h1.on fun b hb => hf.block b (h3 b (h2 b hb)) fun x => hd b (h2 b hb) x, h2, fun b hb => Nat.lt_of_lt_of_le (h3 b hb) hf.size⟩
theorem RAt.below {w w' : World} {q : Nat} {m : M} {F : Nat → Prop} (h : RAt w q m F) (hf : Below w.heap.size w w') : RAt w' q m F := h.fr (G := fun _ => False) (Fr.of hf) fun _ _ x => x
theorem RAt.bd {w : World} {q : Nat} {m : M} {F : Nat → Prop} (h : RAt w q m F) : ∀ b, F b → b < w.heap.size := by obtain ⟨vt, vs, _, _, h3⟩ := h; exact h3
def RRet (w : World) (q : Nat) (m' : M) (F : Nat → Prop) (w' : World) : Prop := ∃ F', RAt w' q m' F' ∧ (∀ b, F' b → F b ∨ w.heap.size ≤ b) ∧ Fr F w w'
theorem RRet.same {w w' : World} {q : Nat} {m : M} {F : Nat → Prop} (h : RAt w q m F) (hb : Below w.heap.size w w') : RRet w q m F w' := ⟨F, h.below hb, fun b hb => .inl hb, Fr.of hb⟩
theorem RRet.mk' {w w' : World} {q : Nat} {m' : M} {F : Nat → Prop} {n : Nat} {vt vt' : Value} {vs vs' : Nat → Value} (hF : ∀ b, RBlk q n vt vs b → F b) (h : ROwn w' q m' vt' vs') (hn : ∀ b, RBlk q m'.ths.length vt' vs' b → RBlk q n vt vs b ∨ w.heap.size ≤ b) (hf : Fr F w w') : RRet w q m' F w' := by
  refine ⟨RBlk q m'.ths.length vt' vs', ⟨vt', vs', h, fun b hb => hb, h.bd⟩, fun b hb => ?_, hf⟩
  rcases hn b hb with x | x
  · exact .inl (hF b x)
  · exact .inr x
theorem RRet.base {w0 w w' : World} {q : Nat} {m' : M} {F : Nat → Prop} (h : RRet w q m' F w') (hb : Below w0.heap.size w0 w) : RRet w0 q m' F w' := by
  obtain ⟨F', h1, h2, h3⟩ := h
  have hs := hb.size
  refine ⟨F', h1, fun b hb => ?_, (Fr.of hb).then h3 fun i _ x => x⟩
  rcases h2 b hb with x | x
  · exact .inl x
  · exact .inr (by omega)
/-- A cell of a row written over. -/
theorem Rw.setc {w : World} {e : TypeId} {size g n cap : Nat} {xs : List Value} (h : Rw w e size (.slice (some ⟨g, 0, none⟩) n cap) n xs) {j : Nat} (hj : j < n * size) (x : Value) : Rw (w.setCell ⟨g, j, none⟩ x) e size (.slice (some ⟨g, 0, none⟩) n cap) n (xs.set j x) := by
  have hl := h.1
  rcases h.2 with ⟨e, _⟩ | ⟨g', cap', cur, e, _, hg, h3, h4, h5, h6⟩
  · cases e
  · cases e
    refine ⟨by rw [List.length_set]; exact hl, .inr ⟨g, cap, cur.setIfInBounds j x, rfl, Nat.zero_le _, heap_set w g j cur _ (0, 0) _ hg, h3, h4, by simpa using h5, ?_⟩⟩
    rw [← h6, Array.toList_setIfInBounds, List.take_set]
end Go.Proofs.Ytcohgbelcbniaaa
