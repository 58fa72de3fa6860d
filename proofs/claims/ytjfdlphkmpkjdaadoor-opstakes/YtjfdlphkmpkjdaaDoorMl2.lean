/-
  THE KIT'S LentModule: a module of its own, with marks behind all lists.
-/
import Derived.Test.YtjfdlphkmpkjdaaDoorJml
import Derived.Test.YtjfdlphkmpkjdaaDoorJms
namespace Go.Proofs.YtjfdlphkmpkjdaaDoor
open Go.RowKit
set_option linter.unusedVariables false

theorem okF : ElemOk 55 54 (.agg #[.string ⟨#[]⟩, .int .i64 0]) 2 24 := ⟨Tryd.underlying55, by kernel_rfl, rfl, by omega, by omega⟩
theorem okT : ElemOk 25 57 (.agg #[.int .u8 0, .string ⟨#[]⟩, .slice none 0 0, .int .i64 0, .int .i64 0]) 5 64 := ⟨Tryd.underlying25, by kernel_rfl, rfl, by omega, by omega⟩
theorem okS : ElemOk 26 9 (.string ⟨#[]⟩) 1 16 := ⟨Tryd.underlying26, by kernel_rfl, rfl, by omega, by omega⟩
theorem okR : ElemOk 27 59 (.agg #[.string ⟨#[]⟩, .slice none 0 0, .slice none 0 0, .int .i64 0, .int .i64 0, .slice none 0 0]) 6 104 := ⟨Tryd.underlying27, by kernel_rfl, rfl, by omega, by omega⟩
abbrev flL (f : Fl) : List Value := [.string f.name, .int .i64 f.typ]
abbrev tyL (x : TyP) : List Value := [.int .u8 (x.t.kind : Int), .string x.t.name, .slice x.fa x.t.fields.length x.fc, .int .i64 x.t.elem, .int .i64 x.t.len]
abbrev roL (x : RoP) : List Value := [.string x.r.name, .slice x.pa x.r.params.length x.pc, .slice x.ra x.r.results.length x.rc, .int .i64 x.r.locals, .int .i64 x.r.stack, .slice x.ca x.r.code.length x.cc]
def flC (l : List Fl) : List Value := (l.map flL).flatten
def tyC (l : List TyP) : List Value := (l.map tyL).flatten
def roC (l : List RoP) : List Value := (l.map roL).flatten
def txC (l : List ByteArray) : List Value := l.map fun s => Value.string s
theorem flC_length (l : List Fl) : (flC l).length = l.length * 2 := flat_len flL 2 (fun _ => rfl) l
theorem tyC_length (l : List TyP) : (tyC l).length = l.length * 5 := flat_len tyL 5 (fun _ => rfl) l
theorem roC_length (l : List RoP) : (roC l).length = l.length * 6 := flat_len roL 6 (fun _ => rfl) l
theorem txC_length (l : List ByteArray) : (txC l).length = l.length * 1 := by simp [txC]
theorem flC_append (x y : List Fl) : flC (x ++ y) = flC x ++ flC y := by simp [flC]
theorem tyC_append (x y : List TyP) : tyC (x ++ y) = tyC x ++ tyC y := by simp [tyC]
theorem roC_append (x y : List RoP) : roC (x ++ y) = roC x ++ roC y := by simp [roC]
theorem txC_append (x y : List ByteArray) : txC (x ++ y) = txC x ++ txC y := by simp [txC]
theorem flC_get (l : List Fl) (i : Nat) (h : i < l.length) (d : Nat) (hd : d < 2) : (flC l)[i * 2 + d]? = some (flF l i d) := by
  rw [flC, flat_get flL 2 (fun _ => rfl) zFl l i d h hd]
  have : d = 0 ∨ d = 1 := by omega
  rcases this with rfl | rfl <;> rfl
theorem tyC_get (l : List TyP) (i : Nat) (h : i < l.length) (d : Nat) (hd : d < 5) : (tyC l)[i * 5 + d]? = some (tyF l i d) := by
  rw [tyC, flat_get tyL 5 (fun _ => rfl) zTP l i d h hd]
  have : d = 0 ∨ d = 1 ∨ d = 2 ∨ d = 3 ∨ d = 4 := by omega
  rcases this with rfl | rfl | rfl | rfl | rfl <;> rfl
theorem roC_get (l : List RoP) (i : Nat) (h : i < l.length) (d : Nat) (hd : d < 6) : (roC l)[i * 6 + d]? = some (roF l i d) := by
  rw [roC, flat_get roL 6 (fun _ => rfl) zRP l i d h hd]
  have : d = 0 ∨ d = 1 ∨ d = 2 ∨ d = 3 ∨ d = 4 ∨ d = 5 := by omega
  rcases this with rfl | rfl | rfl | rfl | rfl | rfl <;> rfl
theorem txC_get (l : List ByteArray) (i : Nat) (h : i < l.length) (d : Nat) (hd : d < 1) : (txC l)[i * 1 + d]? = some (txF l i d) := by
  obtain rfl : d = 0 := by omega
  simp [txC, txF, List.getD, h]
theorem one_of {l : List (List Value)} (h : ∀ x ∈ l, ∀ u ∈ x, u.oneCell' = true) : ∀ u ∈ l.flatten, u.oneCell' = true := by
  intro u hu
  obtain ⟨x, hx, hu⟩ := List.mem_flatten.1 hu
  exact h x hx u hu
theorem flC_one (l : List Fl) : ∀ u ∈ flC l, u.oneCell' = true := one_of (by
  intro x hx u hu
  obtain ⟨f, _, rfl⟩ := List.mem_map.1 hx
  simp at hu
  rcases hu with rfl | rfl <;> rfl)
theorem txC_one (l : List ByteArray) : ∀ u ∈ txC l, u.oneCell' = true := by
  intro u hu
  obtain ⟨s, _, rfl⟩ := List.mem_map.1 hu
  rfl
abbrev markS : ByteArray := ⟨#[109, 97, 114, 107]⟩
def mkF : Fl := ⟨markS, 0⟩
/-- A type that is lent: its fields in a row of their own, a mark behind. -/
structure LentF (B : Nat) (W : World) (x : TyP) : Prop where
  ex : ∃ g, B ≤ g ∧ x.fa = some ⟨g, 0, none⟩
  row : Rw W 54 2 (.slice x.fa (x.t.fields.length + 1) x.fc) (x.t.fields.length + 1) (flC (x.t.fields ++ [mkF]))
theorem LentF.below {B : Nat} {W W' : World} {x : TyP} (h : LentF B W x) (hb : Below W.heap.size W W') : LentF B W' x := ⟨h.ex, h.row.belowR hb⟩
theorem LentF.on {B : Nat} {W W' : World} {x : TyP} (h : LentF B W x) (hb : ∀ k, (Value.slice x.fa (x.t.fields.length + 1) x.fc).ownBlock = some k → W'.heap[k]? = W.heap[k]?) : LentF B W' x := ⟨h.ex, h.row.on hb⟩
/-- A function that is lent: its lists in rows of their own, marks behind. -/
structure LentQ (B : Nat) (W : World) (x : RoP) : Prop where
  p : ∃ g, B ≤ g ∧ x.pa = some ⟨g, 0, none⟩ ∧ LentI W g x.r.params.length x.pc x.r.params
  r : ∃ g, B ≤ g ∧ x.ra = some ⟨g, 0, none⟩ ∧ LentI W g x.r.results.length x.rc x.r.results
  c : ∃ g, B ≤ g ∧ x.ca = some ⟨g, 0, none⟩ ∧ LentB W g x.r.code.length x.cc x.r.code
abbrev zM : Array Value := #[.slice none 0 0, .slice none 0 0, .slice none 0 0]
/-- What stands while a module is lent. -/
structure LmS (w : World) (mc nc : Array Value) (W : World) : Prop where
  om : Own W w.heap.size mc 29
  o2 : Own W (w.heap.size + 1) zM 29
  o3 : Own W (w.heap.size + 2) nc 29
  bel : Below w.heap.size w W
theorem LmS.below {w : World} {mc nc : Array Value} {W W' : World} (h : LmS w mc nc W) (hb : Below W.heap.size W W') : LmS w mc nc W' := ⟨h.om.below hb, h.o2.below hb, h.o3.below hb, h.bel.trans (hb.mono h.bel.size)⟩
theorem LmS.grown {w : World} {mc nc : Array Value} {W W' : World} (h : LmS w mc nc W) {e : TypeId} {size n : Nat} {v : Value} {xs : List Value} (hr : Rw W e size v n xs) (he : e ≠ 29) (hg : W.grownBy W' v.ownBlock) (hn : ∀ b, v.ownBlock = some b → w.heap.size ≤ b) : LmS w mc nc W' :=
  ⟨h.om.grown hg (fun q => hr.ne h.om he q.symm), h.o2.grown hg (fun q => hr.ne h.o2 he q.symm), h.o3.grown hg (fun q => hr.ne h.o3 he q.symm), h.bel.grown hg h.bel.size hn⟩
theorem LmS.set {w : World} {mc nc : Array Value} {W : World} (h : LmS w mc nc W) (i : Nat) (u : Value) : LmS w mc (nc.setIfInBounds i u) (W.setCell ⟨w.heap.size + 2, i, none⟩ u) :=
  ⟨h.om.other (by omega) u, h.o2.other (by omega) u, h.o3.set i u, h.bel.setCell (p := ⟨w.heap.size + 2, i, none⟩) (by show w.heap.size ≤ w.heap.size + 2; omega) u⟩
/-- The lent types so far. -/
structure LmT (w : World) (v : Value) (qs : List TyP) (W : World) : Prop where
  row : Rw W 57 5 v qs.length (tyC qs)
  new : ∀ b, v.ownBlock = some b → w.heap.size + 3 ≤ b
  each : ∀ x ∈ qs, LentF (w.heap.size + 3) W x
theorem LmT.below {w : World} {v : Value} {qs : List TyP} {W W' : World} (h : LmT w v qs W) (hb : Below W.heap.size W W') : LmT w v qs W' := ⟨h.row.belowR hb, h.new, fun x hx => (h.each x hx).below hb⟩
theorem LmT.grown {w : World} {v : Value} {qs : List TyP} {W W' : World} (h : LmT w v qs W) {e : TypeId} {size n : Nat} {u : Value} {xs : List Value} (hr : Rw W e size u n xs) (h1 : 57 ≠ e) (h2 : 54 ≠ e) (hg : W.grownBy W' u.ownBlock) : LmT w v qs W' :=
  ⟨h.row.grown hg (fun k q z => h.row.ne2 hr h1 k q z.symm), h.new, fun x hx => ⟨(h.each x hx).ex, (h.each x hx).row.grown hg (fun k q z => (h.each x hx).row.ne2 hr h2 k q z.symm)⟩⟩
theorem LmT.set {w : World} {v : Value} {qs : List TyP} {W : World} (h : LmT w v qs W) {g : Nat} {cs : Array Value} {t : TypeId} (ho : Own W g cs t) (h1 : 57 ≠ t) (h2 : 54 ≠ t) (i : Nat) (u : Value) : LmT w v qs (W.setCell ⟨g, i, none⟩ u) :=
  ⟨h.row.set (h.row.ne ho h1) i u, h.new, fun x hx => ⟨(h.each x hx).ex, (h.each x hx).row.set ((h.each x hx).row.ne ho h2) i u⟩⟩
end Go.Proofs.YtjfdlphkmpkjdaaDoor
