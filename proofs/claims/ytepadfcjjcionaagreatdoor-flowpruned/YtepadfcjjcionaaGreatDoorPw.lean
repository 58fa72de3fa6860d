/-
  THE MEMORY OF A TERM THAT IS BUILT PART BY PART.
-/
import Derived.Test.YtepadfcjjcionaaGreatDoorPp
import Derived.Test.YtepadfcjjcionaaGreatDoorPm
namespace Go.Proofs.YtepadfcjjcionaaGreatDoor
open Go.RowKit
set_option linter.unusedVariables false

/-- Blocks that the parts may hang on: those of the argument, and new ones, but not the row's own. -/
def SS (w0 w : World) (v : Value) : Nat → Prop := fun g => (g < w0.heap.size ∨ w.heap.size + 3 ≤ g) ∧ v.ownBlock ≠ some g
/-- The blocks that a call from w on may hang its answer on. -/
def SC (w0 w : World) : Nat → Prop := fun g => g < w0.heap.size ∨ w.heap.size ≤ g
def zeroC : Array Value := #[.int .u8 0, .int .i64 0, .int .i64 0, .string ⟨#[]⟩, .slice none 0 0]
structure St (w0 w : World) (cells : Array Value) (op ty n : Int) (tx : ByteArray) (done : List Tm) (ao : Option Addr) (j cap : Nat) (xs : List Value) (wr : World) : Prop where
  len : done.length = j
  out : Own wr (w.heap.size + 2) #[.int .u8 op, .int .i64 ty, .int .i64 n, .string tx, .slice ao j cap] 24
  row : wr.ownsRow 0 24 5 (.slice ao j cap) j xs
  bnd : ∀ k, (Value.slice ao j cap).ownBlock = some k → w.heap.size + 3 ≤ k
  parts : RowP (SS w0 w (.slice ao j cap)) wr done xs
  own : Own wr w.heap.size cells 24
  res : Own wr (w.heap.size + 1) zeroC 24
  bel : Below w.heap.size w wr
theorem St.size {w0 w : World} {cells : Array Value} {op ty n : Int} {tx : ByteArray} {done : List Tm} {ao : Option Addr} {j cap : Nat} {xs : List Value} {wr : World} (h : St w0 w cells op ty n tx done ao j cap xs wr) : w.heap.size + 3 ≤ wr.heap.size := h.out.lt
theorem St.own_lt {w0 w : World} {cells : Array Value} {op ty n : Int} {tx : ByteArray} {done : List Tm} {ao : Option Addr} {j cap : Nat} {xs : List Value} {wr : World} (h : St w0 w cells op ty n tx done ao j cap xs wr) {k : Nat} (hk : (Value.slice ao j cap).ownBlock = some k) : k < wr.heap.size := (World.ownsRow.lt h.row k hk).2
/-- A block that is not the row's stays when the row grows. -/
theorem grown_own {W w3 : World} {r : Option Nat} {b : Nat} {cs : Array Value} {T : TypeId} (h : Own W b cs T) (hg : W.grownBy w3 r) (hne : r ≠ some b) : Own w3 b cs T := (hg.block b h.lt (fun e => hne e.symm)).trans h
theorem St.drew {w0 w : World} {cells : Array Value} {op ty n : Int} {tx : ByteArray} {done : List Tm} {ao : Option Addr} {j cap : Nat} {xs : List Value} {wr : World} (h : St w0 w cells op ty n tx done ao j cap xs wr) : St w0 w cells op ty n tx done ao j cap xs wr.drew :=
  ⟨h.len, h.out, h.row, h.bnd, RowP.on (w := wr) (w' := wr.drew) (fun g o hS ho => ⟨hS, (ho : wr.drew.heap[g]? = some o)⟩) h.parts, h.own, h.res, h.bel.drew⟩
/-- What a call has answered lies behind the growing of the row, too. -/
theorem kids_grown {w0 w : World} {cells : Array Value} {op ty n : Int} {tx : ByteArray} {done : List Tm} {al : Option Addr} {j cl : Nat} {xs : List Value} {wr W9 w3 : World} (hw0 : w0.heap.size ≤ w.heap.size) (h : St w0 w cells op ty n tx done al j cl xs wr) (hg : W9.grownBy w3 (Value.slice al j cl).ownBlock) {kv u : Value} {ks : List Tm} (kx : KidsP (SC w0 wr) W9 kv ks) :
    KidsP (SC w0 wr) (w3.setCell ⟨w.heap.size + 2, 4, none⟩ u) kv ks := by
  have hs := h.size
  refine kx.on fun g o hS ho => ⟨hS, ?_⟩
  have hlt : g < W9.heap.size := (Array.getElem?_eq_some_iff.1 ho).1
  have n1 : g ≠ w.heap.size + 2 := by rcases hS with q | q <;> omega
  rw [Below.heap_setCell w3 ⟨w.heap.size + 2, 4, none⟩ u g n1]
  refine (hg.block g hlt fun e => ?_).trans ho
  have h1 := h.bnd g e.symm
  have h2 := h.own_lt e.symm
  rcases hS with q | q <;> omega
/-- A part more. -/
theorem St.app {w0 w : World} {cells : Array Value} {op ty n : Int} {tx : ByteArray} {done : List Tm} {al : Option Addr} {j cl : Nat} {xs : List Value} {wr W9 w3 : World} (hw0 : w0.heap.size ≤ w.heap.size) (h : St w0 w cells op ty n tx done al j cl xs wr) (hb : Below wr.heap.size wr W9) {u : Tm} {kv : Value} (kx : KidsP (SC w0 wr) W9 kv u.ks) (hn : inr u.n) {a' : Option Addr} {c' : Nat}
    (row3 : w3.ownsRow 0 24 5 (.slice a' (j + 1) c') (j + 1) (xs ++ [.int .u8 u.op, .int .i64 u.ty, .int .i64 u.n, .string u.tx, kv])) (hg : W9.grownBy w3 (Value.slice al j cl).ownBlock) (hnew : (Value.slice a' (j + 1) c').ownBlock = (Value.slice al j cl).ownBlock ∨ (Value.slice a' (j + 1) c').ownBlock = some W9.heap.size) :
    St w0 w cells op ty n tx (done ++ [u]) a' (j + 1) c' (xs ++ [.int .u8 u.op, .int .i64 u.ty, .int .i64 u.n, .string u.tx, kv]) (w3.setCell ⟨w.heap.size + 2, 4, none⟩ (.slice a' (j + 1) c')) := by
  have hs := h.size
  have hs9 := hb.size
  have nb : ∀ b, b < w.heap.size + 3 → (Value.slice al j cl).ownBlock ≠ some b := fun b hb e => by have := h.bnd b e; omega
  have o9 := h.out.below hb
  have o3 := grown_own o9 hg (nb _ (by omega))
  have own3 := grown_own (h.own.below hb) hg (nb _ (by omega))
  have res3 := grown_own (h.res.below hb) hg (nb _ (by omega))
  have bnd' : ∀ k, (Value.slice a' (j + 1) c').ownBlock = some k → w.heap.size + 3 ≤ k := fun k e => by
    rcases hnew with q | q
    · rw [q] at e; exact h.bnd k e
    · rw [q] at e; cases e; omega
  have hout : ∀ k o, w3.heap[k]? = some o → k ≠ w.heap.size + 2 → (w3.setCell ⟨w.heap.size + 2, 4, none⟩ (.slice a' (j + 1) c')).heap[k]? = some o := fun k o hk hne => by
    rw [Below.heap_setCell w3 ⟨w.heap.size + 2, 4, none⟩ _ k hne]; exact hk
  have key : ∀ (g : Nat) (o : Obj), (g < w0.heap.size ∨ w.heap.size + 3 ≤ g) → (Value.slice al j cl).ownBlock ≠ some g → W9.heap[g]? = some o → SS w0 w (.slice a' (j + 1) c') g ∧ (w3.setCell ⟨w.heap.size + 2, 4, none⟩ (.slice a' (j + 1) c')).heap[g]? = some o := fun g o h1 h2 h3 => by
    have hlt : g < W9.heap.size := (Array.getElem?_eq_some_iff.1 h3).1
    refine ⟨⟨h1, fun e => ?_⟩, hout g o ((hg.block g hlt fun e => h2 e.symm).trans h3) (by rcases h1 with q | q <;> omega)⟩
    rcases hnew with q | q
    · rw [q] at e; exact h2 e
    · rw [q] at e; cases e; omega
  refine ⟨by rw [List.length_append, h.len]; rfl, ?_, ?_, bnd', ?_, own3.other (by omega) _, res3.other (by omega) _, ?_⟩
  · exact o3.set 4 _
  · exact row3.1 |> fun q => ⟨q, by
      rcases row3.2 with ⟨q, _⟩ | ⟨g, cap, cur, e, q1, q2, q3⟩
      · cases q
      · refine .inr ⟨g, cap, cur, e, q1, hout g _ q2 ?_, q3⟩
        have := bnd' g (by rw [e]; rfl)
        omega⟩
  · refine RowP.snoc ?_ hn ?_
    · refine kx.on fun g o hS ho => key g o ?_ (fun e => ?_) ho
      · rcases hS with q | q
        · exact .inl q
        · exact .inr (by omega)
      · have h1 := h.bnd g e
        have h2 := h.own_lt e
        rcases hS with q | q <;> omega
    · refine h.parts.on fun g o hS ho => key g o hS.1 hS.2 ?_
      exact (hb.block g (Array.getElem?_eq_some_iff.1 ho).1).trans ho
  · have b1 : Below w.heap.size w W9 := h.bel.trans (hb.mono h.bel.size)
    have b2 : Below w.heap.size w w3 := b1.grown hg (by omega) fun k e => by have := h.bnd k e; omega
    exact b2.setCell (by show w.heap.size ≤ w.heap.size + 2; omega) _
/-- The answer. -/
theorem St.kids {w0 w : World} {cells : Array Value} {op ty n : Int} {tx : ByteArray} {done : List Tm} {ao : Option Addr} {j cap : Nat} {xs : List Value} {wr w' : World} (hw0 : w0.heap.size ≤ w.heap.size) (h : St w0 w cells op ty n tx done ao j cap xs wr) (hk : ∀ g, g ≠ w.heap.size + 1 → w'.heap[g]? = wr.heap[g]?) : KidsP (SC w0 w) w' (.slice ao j cap) done := by
  have q : KidsP (fun g => g < w0.heap.size ∨ w.heap.size + 3 ≤ g) wr (.slice ao j cap) done := h.parts.kids h.len h.row (fun g hg => hg.1) (fun g e => .inr (h.bnd g e))
  refine q.on fun g o hS ho => ⟨hS.elim (fun z => .inl z) (fun z => .inr (by omega)), ?_⟩
  rw [hk g (by rcases hS with z | z <;> omega)]
  exact ho
theorem set5 {w : World} {b : Nat} {c0 c1 c2 c3 c4 : Value} (h : Own w b #[c0, c1, c2, c3, c4] 24) (v0 v1 v2 v3 v4 : Value) : Own (((((w.setCell ⟨b, 0, none⟩ v0).setCell ⟨b, 1, none⟩ v1).setCell ⟨b, 2, none⟩ v2).setCell ⟨b, 3, none⟩ v3).setCell ⟨b, 4, none⟩ v4) b #[v0, v1, v2, v3, v4] 24 ∧
    (∀ g, g ≠ b → (((((w.setCell ⟨b, 0, none⟩ v0).setCell ⟨b, 1, none⟩ v1).setCell ⟨b, 2, none⟩ v2).setCell ⟨b, 3, none⟩ v3).setCell ⟨b, 4, none⟩ v4).heap[g]? = w.heap[g]?) ∧
    (((((w.setCell ⟨b, 0, none⟩ v0).setCell ⟨b, 1, none⟩ v1).setCell ⟨b, 2, none⟩ v2).setCell ⟨b, 3, none⟩ v3).setCell ⟨b, 4, none⟩ v4).heap.size = w.heap.size ∧
    ∀ (B : Nat) (a : World), B ≤ b → Below B a w → Below B a (((((w.setCell ⟨b, 0, none⟩ v0).setCell ⟨b, 1, none⟩ v1).setCell ⟨b, 2, none⟩ v2).setCell ⟨b, 3, none⟩ v3).setCell ⟨b, 4, none⟩ v4) := by
  refine ⟨((((h.set 0 v0).set 1 v1).set 2 v2).set 3 v3).set 4 v4, fun g hg => ?_, by simp [World.setCell], fun B a hB hb => ((((hb.setCell hB _).setCell hB _).setCell hB _).setCell hB _).setCell hB _⟩
  rw [Below.heap_setCell _ ⟨b, 4, none⟩ _ g hg, Below.heap_setCell _ ⟨b, 3, none⟩ _ g hg, Below.heap_setCell _ ⟨b, 2, none⟩ _ g hg, Below.heap_setCell _ ⟨b, 1, none⟩ _ g hg, Below.heap_setCell _ ⟨b, 0, none⟩ _ g hg]
theorem kids_arg {w0 w W : World} {v : Value} {ks : List Tm} (h : KidsR w0 v ks) (hb : Below w0.heap.size w0 W) : KidsP (SC w0 w) W v ks := h.toP.on fun g o hg ho => ⟨.inl hg, (hb.block g hg).trans ho⟩
theorem kids_call {w0 wr W1 w1 W9 : World} {v : Value} {ks : List Tm} (hs : wr.heap.size ≤ W1.heap.size) (h : KidsP (SC w0 W1) w1 v ks) (hk : ∀ g, (g < w0.heap.size ∨ W1.heap.size ≤ g) → g < w1.heap.size → W9.heap[g]? = w1.heap[g]?) : KidsP (SC w0 wr) W9 v ks :=
  h.on fun g o hg ho => ⟨hg.elim (fun z => .inl z) (fun z => .inr (by omega)), (hk g hg (Array.getElem?_eq_some_iff.1 ho).1).trans ho⟩
theorem st_start (w0 w : World) (cells : Array Value) (op ty n : Int) (tx : ByteArray) : St w0 w cells op ty n tx [] none 0 0 [] (((w.alloc (.cells cells 24)).alloc (.cells zeroC 24)).alloc (.cells #[.int .u8 op, .int .i64 ty, .int .i64 n, .string tx, .slice none 0 0] 24)) := by
  have s1 : (w.alloc (.cells cells 24)).heap.size = w.heap.size + 1 := Array.size_push ..
  have s2 : ((w.alloc (.cells cells 24)).alloc (.cells zeroC 24)).heap.size = w.heap.size + 2 := (Array.size_push ..).trans (congrArg (· + 1) (Array.size_push ..))
  have h1 := Own.new (w.alloc (.cells cells 24)) zeroC 24
  rw [s1] at h1
  have h2 := Own.new ((w.alloc (.cells cells 24)).alloc (.cells zeroC 24)) #[.int .u8 op, .int .i64 ty, .int .i64 n, .string tx, .slice none 0 0] 24
  rw [s2] at h2
  exact ⟨rfl, h2, World.ownsRow_nil _ _ _ _, fun k e => (by cases e), rfl, ((Own.new w cells 24).alloc _).alloc _, h1.alloc _, (((Below.refl _ _).alloc (Nat.le_refl _) _).alloc (by rw [s1]; omega) _).alloc (by rw [s2]; omega) _⟩
end Go.Proofs.YtepadfcjjcionaaGreatDoor
