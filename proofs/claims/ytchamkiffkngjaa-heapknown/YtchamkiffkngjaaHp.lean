/-
  THE LANDED HEAP IN MEMORY: its block, the row of its things, each thing's block and the row of its words.
-/
import Derived.Test.YtchamkiffkngjaaBase
namespace Go.Proofs.Ytchamkiffkngjaa
open Go.RowKit
set_option linter.unusedVariables false

/-- The pointer type under which a thing of a kind is held, and its block's type. -/
def kP (k : Nat) : TypeId := if k = 1 then 47 else if k = 4 then 60 else 50
def kB (k : Nat) : TypeId := if k = 1 then 72 else if k = 4 then 61 else 57
def refV (k b : Nat) : Value := .iface (kP k) (.pointer (some ⟨b, 0, none⟩))
def wordV (xs : List Int) : List Value := xs.map fun x => .int .u64 x
theorem wordV_length (xs : List Int) : (wordV xs).length = xs.length := List.length_map ..
def ThCells (t : Th) (v : Value) : Array Value := if t.kind = 1 then #[.int .i64 t.typ, .string t.text] else #[.int .i64 t.typ, v]
structure ThIn (w : World) (b : Nat) (v : Value) (t : Th) : Prop where
  own : Own w b (ThCells t v) (kB t.kind)
  row : Rw w 24 1 v t.words.length (wordV t.words)
theorem ThIn.on {w w' : World} {b : Nat} {v : Value} {t : Th} (h : ThIn w b v t) (h1 : w'.heap[b]? = w.heap[b]?) (h2 : ∀ g, v.ownBlock = some g → w'.heap[g]? = w.heap[g]?) : ThIn w' b v t := ⟨h1.trans h.own, h.row.on h2⟩
def things (bs : Nat → Nat) (ths : List Th) : List Value := ths.mapIdx fun i t => refV t.kind (bs i)
theorem things_length (bs : Nat → Nat) (ths : List Th) : (things bs ths).length = ths.length := List.length_mapIdx
theorem things_get (bs : Nat → Nat) (ths : List Th) (i : Nat) (t : Th) (h : ths[i]? = some t) : (things bs ths)[i]? = some (refV t.kind (bs i)) := by
  unfold things
  rw [List.getElem?_mapIdx, h]; rfl
theorem things_snoc (bs bs' : Nat → Nat) (ths : List Th) (t : Th) (b : Nat) (h : ∀ i, i < ths.length → bs' i = bs i) (hn : bs' ths.length = b) : things bs' (ths ++ [t]) = things bs ths ++ [refV t.kind b] := by
  apply List.ext_getElem?
  intro i
  rcases Nat.lt_trichotomy i ths.length with hi | hi | hi
  · rw [List.getElem?_append_left (by rw [things_length]; exact hi)]
    have e := List.getElem?_eq_getElem hi
    rw [things_get bs ths i _ e, things_get bs' _ i ths[i] (by rw [List.getElem?_append_left hi]; exact e), h i hi]
  · subst hi
    rw [things_get bs' _ _ t (by simp), hn]
    rw [List.getElem?_append_right (by rw [things_length]; exact Nat.le_refl _), things_length, Nat.sub_self]; rfl
  · rw [List.getElem?_eq_none (by rw [things_length, List.length_append, List.length_singleton]; omega), List.getElem?_eq_none (by rw [List.length_append, things_length, List.length_singleton]; omega)]
theorem things_set (bs : Nat → Nat) (ths : List Th) (k : Nat) (t0 t : Th) (h0 : ths[k]? = some t0) (h : t.kind = t0.kind) : things bs (ths.set k t) = things bs ths := by
  apply List.ext_getElem?
  intro i
  obtain ⟨hk, e0⟩ := List.getElem?_eq_some_iff.1 h0
  by_cases hi : i < ths.length
  · have e := List.getElem?_eq_getElem hi
    by_cases hik : i = k
    · subst hik
      rw [things_get bs ths i _ h0, things_get bs _ i t (by rw [List.getElem?_set_self hk]), h]
    · rw [things_get bs ths i _ e, things_get bs _ i ths[i] (by rw [List.getElem?_set_ne (Ne.symm hik)]; exact e)]
  · rw [List.getElem?_eq_none (by rw [things_length, List.length_set]; omega), List.getElem?_eq_none (by rw [things_length]; omega)]
structure HOwn (w : World) (p : Nat) (m : M) (vt : Value) (bs : Nat → Nat) (vs : Nat → Value) : Prop where
  own : Own w p #[.bool true, .int .i64 (m.limit : Int), .int .i64 (m.used : Int), vt] 45
  row : Rw w 66 1 vt m.ths.length (things bs m.ths)
  thing : ∀ i t, m.ths[i]? = some t → ThIn w (bs i) (vs i) t
  injB : ∀ i j, i < m.ths.length → j < m.ths.length → bs i = bs j → i = j
  injV : ∀ i j g, i < m.ths.length → j < m.ths.length → (vs i).ownBlock = some g → (vs j).ownBlock = some g → i = j
  inv : Inv m
def Blk (p : Nat) (n : Nat) (vt : Value) (bs : Nat → Nat) (vs : Nat → Value) (b : Nat) : Prop := b = p ∨ vt.ownBlock = some b ∨ (∃ i, i < n ∧ b = bs i) ∨ ∃ i, i < n ∧ (vs i).ownBlock = some b
theorem HOwn.on {w w' : World} {p : Nat} {m : M} {vt : Value} {bs : Nat → Nat} {vs : Nat → Value} (h : HOwn w p m vt bs vs) (hb : ∀ b, Blk p m.ths.length vt bs vs b → w'.heap[b]? = w.heap[b]?) : HOwn w' p m vt bs vs :=
  ⟨(hb p (.inl rfl)).trans h.own, h.row.on fun k e => hb k (.inr (.inl e)), fun i t ht => (h.thing i t ht).on (hb _ (.inr (.inr (.inl ⟨i, (List.getElem?_eq_some_iff.1 ht).1, rfl⟩)))) fun g hg => hb g (.inr (.inr (.inr ⟨i, (List.getElem?_eq_some_iff.1 ht).1, hg⟩))), h.injB, h.injV, h.inv⟩
theorem HOwn.bd {w : World} {p : Nat} {m : M} {vt : Value} {bs : Nat → Nat} {vs : Nat → Value} (h : HOwn w p m vt bs vs) : ∀ b, Blk p m.ths.length vt bs vs b → b < w.heap.size := by
  rintro b (rfl | hb | ⟨i, hi, rfl⟩ | ⟨i, hi, hb⟩)
  · exact h.own.lt
  · exact h.row.lt hb
  · exact (h.thing i _ (List.getElem?_eq_getElem hi)).own.lt
  · exact (h.thing i _ (List.getElem?_eq_getElem hi)).row.lt hb
def HAt (w : World) (p : Nat) (m : M) (F : Nat → Prop) : Prop := ∃ vt bs vs, HOwn w p m vt bs vs ∧ (∀ b, Blk p m.ths.length vt bs vs b → F b) ∧ (∀ b, F b → b < w.heap.size)
theorem HAt.fr {w w' : World} {p : Nat} {m : M} {F G : Nat → Prop} (h : HAt w p m F) (hf : Fr G w w') (hd : ∀ b, F b → G b → False) : HAt w' p m F := by
  obtain ⟨vt, bs, vs, h1, h2, h3⟩ := h
  exact ⟨vt, bs, vs, h1.on fun b hb => hf.block b (h3 b (h2 b hb)) fun q => hd b (h2 b hb) q, h2, fun b hb => Nat.lt_of_lt_of_le (h3 b hb) hf.size⟩
theorem HAt.below {w w' : World} {p : Nat} {m : M} {F : Nat → Prop} (h : HAt w p m F) (hf : Below w.heap.size w w') : HAt w' p m F := h.fr (G := fun _ => False) (Fr.of hf) fun _ _ q => q
theorem HAt.inv {w : World} {p : Nat} {m : M} {F : Nat → Prop} (h : HAt w p m F) : Inv m := by obtain ⟨vt, bs, vs, h1, _⟩ := h; exact h1.inv
theorem HAt.lt {w : World} {p : Nat} {m : M} {F : Nat → Prop} (h : HAt w p m F) : p < w.heap.size := by obtain ⟨vt, bs, vs, h1, _⟩ := h; exact h1.own.lt
theorem HAt.mem {w : World} {p : Nat} {m : M} {F : Nat → Prop} (h : HAt w p m F) : F p := by obtain ⟨vt, bs, vs, _, h2, _⟩ := h; exact h2 p (.inl rfl)
theorem HAt.bd {w : World} {p : Nat} {m : M} {F : Nat → Prop} (h : HAt w p m F) : ∀ b, F b → b < w.heap.size := by obtain ⟨vt, bs, vs, _, _, h3⟩ := h; exact h3
/-- What a call on a heap leaves. -/
def HRet (w : World) (p : Nat) (m' : M) (F : Nat → Prop) (w' : World) : Prop := ∃ F', HAt w' p m' F' ∧ (∀ b, F' b → F b ∨ w.heap.size ≤ b) ∧ Fr F w w'
theorem HRet.same {w w' : World} {p : Nat} {m : M} {F : Nat → Prop} (h : HAt w p m F) (hb : Below w.heap.size w w') : HRet w p m F w' := ⟨F, h.below hb, fun b hb => .inl hb, Fr.of hb⟩
theorem HRet.mk' {w w' : World} {p : Nat} {m' : M} {F : Nat → Prop} {n : Nat} {vt vt' : Value} {bs bs' : Nat → Nat} {vs vs' : Nat → Value} (hF : ∀ b, Blk p n vt bs vs b → F b) (h : HOwn w' p m' vt' bs' vs') (hn : ∀ b, Blk p m'.ths.length vt' bs' vs' b → Blk p n vt bs vs b ∨ w.heap.size ≤ b) (hf : Fr F w w') : HRet w p m' F w' := by
  refine ⟨Blk p m'.ths.length vt' bs' vs', ⟨vt', bs', vs', h, fun b hb => hb, h.bd⟩, fun b hb => ?_, hf⟩
  rcases hn b hb with q | q
  · exact .inl (hF b q)
  · exact .inr q
/-- A call behind another one. -/
theorem HRet.then {w w1 w2 : World} {p : Nat} {m1 m2 : M} {F : Nat → Prop} (h : HRet w p m1 F w1) (k : ∀ F1, HAt w1 p m1 F1 → HRet w1 p m2 F1 w2) : HRet w p m2 F w2 := by
  obtain ⟨F1, h1, h2, h3⟩ := h
  obtain ⟨F2, k1, k2, k3⟩ := k F1 h1
  have hs := h3.size
  refine ⟨F2, k1, fun b hb => ?_, h3.then k3 fun i hi q => ?_⟩
  · rcases k2 b hb with q | q
    · exact h2 b q
    · exact .inr (by omega)
  · rcases h2 i q with q | q
    · exact q
    · omega
theorem HRet.base {w0 w w' : World} {p : Nat} {m' : M} {F : Nat → Prop} (h : HRet w p m' F w') (hb : Below w0.heap.size w0 w) : HRet w0 p m' F w' := by
  obtain ⟨F', h1, h2, h3⟩ := h
  have hs := hb.size
  refine ⟨F', h1, fun b hb => ?_, (Fr.of hb).then h3 fun i _ q => q⟩
  rcases h2 b hb with q | q
  · exact .inl q
  · exact .inr (by omega)

/-! ### A thing more, and a thing changed -/
theorem kB_ne (k : Nat) : kB k ≠ 66 ∧ kB k ≠ 45 ∧ kB k ≠ 24 := by
  unfold kB
  split
  · decide
  · split <;> decide
theorem HOwn.grow {w w' : World} {p : Nat} {m : M} {vt vt' : Value} {bs : Nat → Nat} {vs : Nat → Value} (h : HOwn w p m vt bs vs) (t : Th) (b : Nat) (v : Value) (c : Nat) (hpay : m.used + c ≤ m.limit)
    (ho : Own w' p #[.bool true, .int .i64 (m.limit : Int), .int .i64 ((m.used + c : Nat) : Int), vt'] 45) (hr : Rw w' 66 1 vt' (m.ths.length + 1) (things bs m.ths ++ [refV t.kind b])) (ht : ThIn w' b v t)
    (hb : ∀ i, i < m.ths.length → w'.heap[bs i]? = w.heap[bs i]? ∧ ∀ g, (vs i).ownBlock = some g → w'.heap[g]? = w.heap[g]?)
    (nb : ∀ i, i < m.ths.length → bs i ≠ b ∧ ∀ g, (vs i).ownBlock = some g → v.ownBlock ≠ some g) (hi : Inv (m.made t c)) :
    HOwn w' p (m.made t c) vt' (fun i => if i = m.ths.length then b else bs i) (fun i => if i = m.ths.length then v else vs i) := by
  have e : m.made t c = ⟨m.ths ++ [t], m.used + c, m.limit⟩ := by simp [M.made, M.paid, M.keep, hpay]
  rw [e] at hi ⊢
  refine ⟨ho, ?_, ?_, ?_, ?_, hi⟩
  · show Rw w' 66 1 vt' (m.ths ++ [t]).length (things _ (m.ths ++ [t]))
    rw [things_snoc bs (fun i => if i = m.ths.length then b else bs i) m.ths t b (fun i hi => if_neg (by omega)) (if_pos rfl), List.length_append]
    exact hr
  · intro i u hu
    by_cases hi : i < m.ths.length
    · have hu' : m.ths[i]? = some u := by
        have hu2 : (m.ths ++ [t])[i]? = some u := hu
        rwa [List.getElem?_append_left hi] at hu2
      simp only [if_neg (show ¬ i = m.ths.length by omega)]
      exact (h.thing i u hu').on (hb i hi).1 (hb i hi).2
    · have hu2 : (m.ths ++ [t])[i]? = some u := hu
      obtain ⟨hl, _⟩ := List.getElem?_eq_some_iff.1 hu2
      have hin : i = m.ths.length := by rw [List.length_append, List.length_singleton] at hl; omega
      subst hin
      simp at hu2
      subst hu2
      simpa using ht
  · intro i j hi hj hij
    simp only [List.length_append, List.length_singleton] at hi hj
    by_cases h1 : i = m.ths.length
    · by_cases h2 : j = m.ths.length
      · rw [h1, h2]
      · simp only [if_pos h1, if_neg h2] at hij
        exact absurd hij.symm (nb j (by omega)).1
    · by_cases h2 : j = m.ths.length
      · simp only [if_neg h1, if_pos h2] at hij
        exact absurd hij (nb i (by omega)).1
      · simp only [if_neg h1, if_neg h2] at hij
        exact h.injB i j (by omega) (by omega) hij
  · intro i j g hi hj hig hjg
    simp only [List.length_append, List.length_singleton] at hi hj
    by_cases h1 : i = m.ths.length
    · by_cases h2 : j = m.ths.length
      · rw [h1, h2]
      · simp only [if_pos h1] at hig
        simp only [if_neg h2] at hjg
        exact absurd hig ((nb j (by omega)).2 g hjg)
    · by_cases h2 : j = m.ths.length
      · simp only [if_neg h1] at hig
        simp only [if_pos h2] at hjg
        exact absurd hjg ((nb i (by omega)).2 g hig)
      · simp only [if_neg h1] at hig
        simp only [if_neg h2] at hjg
        exact h.injV i j g (by omega) (by omega) hig hjg
theorem HOwn.write {w w' : World} {p : Nat} {m : M} {vt : Value} {bs : Nat → Nat} {vs : Nat → Value} (h : HOwn w p m vt bs vs) (k : Nat) (t0 t : Th) (u : Nat) (v : Value) (hk : m.ths[k]? = some t0) (hkd : t.kind = t0.kind)
    (ho : Own w' p #[.bool true, .int .i64 (m.limit : Int), .int .i64 (u : Int), vt] 45) (hr : ∀ g, vt.ownBlock = some g → w'.heap[g]? = w.heap[g]?) (ht : ThIn w' (bs k) v t)
    (hb : ∀ i, i < m.ths.length → i ≠ k → w'.heap[bs i]? = w.heap[bs i]? ∧ ∀ g, (vs i).ownBlock = some g → w'.heap[g]? = w.heap[g]?)
    (nb : ∀ i, i < m.ths.length → i ≠ k → ∀ g, (vs i).ownBlock = some g → v.ownBlock ≠ some g) (hi : Inv ⟨m.ths.set k t, u, m.limit⟩) :
    HOwn w' p ⟨m.ths.set k t, u, m.limit⟩ vt bs (fun i => if i = k then v else vs i) := by
  obtain ⟨hkl, e0⟩ := List.getElem?_eq_some_iff.1 hk
  refine ⟨ho, ?_, ?_, ?_, ?_, hi⟩
  · show Rw w' 66 1 vt (m.ths.set k t).length (things bs (m.ths.set k t))
    rw [things_set bs m.ths k t0 t hk hkd, List.length_set]
    exact h.row.on hr
  · intro i x hx
    have hx2 : (m.ths.set k t)[i]? = some x := hx
    by_cases hik : i = k
    · subst hik
      rw [List.getElem?_set_self hkl] at hx2
      cases hx2
      simpa using ht
    · rw [List.getElem?_set_ne (Ne.symm hik)] at hx2
      have hl := (List.getElem?_eq_some_iff.1 hx2).1
      simp only [if_neg hik]
      exact (h.thing i x hx2).on (hb i hl hik).1 (hb i hl hik).2
  · intro i j hi hj hij
    simp only [List.length_set] at hi hj
    exact h.injB i j hi hj hij
  · intro i j g hi hj hig hjg
    simp only [List.length_set] at hi hj
    by_cases h1 : i = k
    · by_cases h2 : j = k
      · rw [h1, h2]
      · simp only [if_pos h1] at hig
        simp only [if_neg h2] at hjg
        exact absurd hig (nb j hj h2 g hjg)
    · by_cases h2 : j = k
      · simp only [if_neg h1] at hig
        simp only [if_pos h2] at hjg
        exact absurd hjg (nb i hi h1 g hig)
      · simp only [if_neg h1] at hig
        simp only [if_neg h2] at hjg
        exact h.injV i j g hi hj hig hjg
/-- Blocks of one heap are apart. -/
theorem HOwn.apart {w : World} {p : Nat} {m : M} {vt : Value} {bs : Nat → Nat} {vs : Nat → Value} (h : HOwn w p m vt bs vs) {i : Nat} (hi : i < m.ths.length) : bs i ≠ p ∧ vt.ownBlock ≠ some (bs i) ∧ (vs i).ownBlock ≠ some p ∧ (∀ g, (vs i).ownBlock = some g → vt.ownBlock ≠ some g) ∧ ∀ j, j < m.ths.length → (vs j).ownBlock ≠ some (bs i) := by
  have ht := h.thing i _ (List.getElem?_eq_getElem hi)
  obtain ⟨q1, q2, q3⟩ := kB_ne m.ths[i].kind
  refine ⟨ht.own.ne h.own q2, h.row.ne ht.own (Ne.symm q1), ht.row.ne h.own (by decide), fun g hg => h.row.ne2 ht.row (by decide) |> fun f e => f g e hg, fun j hj => ?_⟩
  exact (h.thing j _ (List.getElem?_eq_getElem hj)).row.ne ht.own (Ne.symm q3)
end Go.Proofs.Ytchamkiffkngjaa
