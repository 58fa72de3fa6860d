/-
  CONTRACTS of the document's put, Encode, Size, Name.
  CONTRACTS of the document's Size.
  CONTRACTS of the document's Encode.
-/
import Derived.Test.YtjfdlphkmpkjdaaDoorRs
import Derived.StillTailTactics
namespace Go.Proofs.YtjfdlphkmpkjdaaDoor
open Go.RowKit
set_option linter.unusedVariables false

/-- What put answers: the row with more behind; what it keeps. -/
def PutRet (w : World) (v : Value) (ys : List Nat) (e : Ending) (w' : World) : Prop :=
  ∃ v', e = .returned v' ∧ Rw w' 5 1 v' ys.length (nums ys) ∧ (∀ b, v'.ownBlock = some b → v.ownBlock = some b ∨ w.heap.size ≤ b) ∧ Fr (fun b => v.ownBlock = some b) w w'
def PutRel (w : World) (v : Value) (xs : List Nat) (U : Nat) (k : Nat) (b : Value) (wr : World) : Prop :=
  ∃ a c, b = .slice a (xs.length + k) c ∧ Rw wr 5 1 b (xs.length + k) (nums (xs ++ fixN U k)) ∧ (∀ g, b.ownBlock = some g → v.ownBlock = some g ∨ w.heap.size ≤ g) ∧ Fr (fun g => v.ownBlock = some g) w wr
theorem putRel_step {w : World} {v : Value} {xs : List Nat} {U k : Nat} {a : Option Addr} {c : Nat} {wr : World} (h : PutRel w v xs U k (.slice a (xs.length + k) c) wr) {m : Int} (hm : m = ((U / 256 ^ k % 256 : Nat) : Int)) {ao : Option Addr} {cap : Nat} {wz : World}
    (q1 : Rw wz 5 1 (.slice ao (xs.length + k + 1) cap) (xs.length + k + 1) (nums (xs ++ fixN U k) ++ [.int .u8 m])) (q2 : (wr.alloc (.cells #[.int .u8 m] 5)).grownBy wz (Value.slice a (xs.length + k) c).ownBlock)
    (q3 : (Value.slice ao (xs.length + k + 1) cap).ownBlock = (Value.slice a (xs.length + k) c).ownBlock ∨ (Value.slice ao (xs.length + k + 1) cap).ownBlock = some (wr.alloc (.cells #[.int .u8 m] 5)).heap.size) :
    PutRel w v xs U (k + 1) (.slice ao (xs.length + k + 1) cap) wz := by
  obtain ⟨a', c', e, h1, h2, h3⟩ := h
  cases e
  refine ⟨ao, cap, rfl, ?_, ?_, ?_⟩
  · have e : nums (xs ++ fixN U (k + 1)) = nums (xs ++ fixN U k) ++ [.int .u8 m] := by
      rw [fixN_succ, ← List.append_assoc, nums_append, hm]; rfl
    rw [e]; exact q1
  · intro g hg
    rcases q3 with q | q
    · rw [q] at hg; exact h2 g hg
    · rw [q] at hg
      cases hg
      exact .inr (Nat.le_trans h3.size (by simp))
  · refine (h3.alloc (.cells #[.int .u8 m] 5)).grown q2 fun j hj e => ?_
    rcases h2 j e with q | q
    · exact q
    · omega
set_option maxRecDepth 100000 in
theorem names_cell (op : Nat) (h : op < 53) : (#[.string ⟨#[]⟩, .string ⟨#[105, 56]⟩, .string ⟨#[105, 51, 50]⟩, .string ⟨#[105, 54, 52]⟩, .string ⟨#[116, 114, 117, 101]⟩, .string ⟨#[102, 97, 108, 115, 101]⟩, .string ⟨#[116, 101, 120, 116]⟩, .string ⟨#[103, 101, 116]⟩, .string ⟨#[112, 117, 116]⟩, .string ⟨#[112, 111, 112]⟩, .string ⟨#[100, 117, 112]⟩, .string ⟨#[97, 100, 100]⟩, .string ⟨#[115, 117, 98]⟩, .string ⟨#[109, 117, 108]⟩, .string ⟨#[100, 105, 118]⟩, .string ⟨#[114, 101, 109]⟩, .string ⟨#[97, 110, 100]⟩, .string ⟨#[111, 114]⟩, .string ⟨#[120, 111, 114]⟩, .string ⟨#[115, 104, 108]⟩, .string ⟨#[115, 104, 114]⟩, .string ⟨#[110, 101, 103]⟩, .string ⟨#[110, 111, 116]⟩, .string ⟨#[101, 113]⟩, .string ⟨#[110, 101]⟩, .string ⟨#[108, 116]⟩, .string ⟨#[108, 101]⟩, .string ⟨#[103, 116]⟩, .string ⟨#[103, 101]⟩, .string ⟨#[99, 111, 110, 118]⟩, .string ⟨#[102, 108, 105, 112]⟩, .string ⟨#[99, 97, 116]⟩, .string ⟨#[115, 105, 122, 101]⟩, .string ⟨#[99, 104, 97, 114, 97, 116]⟩, .string ⟨#[99, 117, 116]⟩, .string ⟨#[98, 121, 116, 101]⟩, .string ⟨#[110, 101, 119]⟩, .string ⟨#[102, 105, 101, 108, 100]⟩, .string ⟨#[115, 101, 116, 102, 105, 101, 108, 100]⟩, .string ⟨#[102, 105, 108, 108]⟩, .string ⟨#[101, 109, 112, 116, 121]⟩, .string ⟨#[97, 116]⟩, .string ⟨#[115, 101, 116, 97, 116]⟩, .string ⟨#[108, 101, 110]⟩, .string ⟨#[112, 117, 115, 104]⟩, .string ⟨#[100, 114, 111, 112]⟩, .string ⟨#[106, 117, 109, 112]⟩, .string ⟨#[117, 110, 108, 101, 115, 115]⟩, .string ⟨#[119, 104, 101, 110]⟩, .string ⟨#[115, 119, 105, 116, 99, 104]⟩, .string ⟨#[99, 97, 108, 108]⟩, .string ⟨#[114, 101, 116, 117, 114, 110]⟩, .string ⟨#[116, 114, 97, 112]⟩] : Array Value)[op]? = some (.string (nameB op)) := by
  show ((nameL.map fun l => Value.string ⟨⟨l⟩⟩).toArray)[op]? = _
  have h2 : op < nameL.length := h
  unfold nameB
  simp [List.getD, h2]
end Go.Proofs.YtjfdlphkmpkjdaaDoor
namespace Go.Proofs.YtjfdlphkmpkjdaaDoor
open Go.RowKit
set_option linter.unusedVariables false

theorem own8 {w : World} {g : Nat} {a0 a1 a2 a3 a4 a5 a6 a7 : Value} {t : TypeId} (h : Own w g #[a0, a1, a2, a3, a4, a5, a6, a7] t) : w.cell? ⟨g, 0, none⟩ = some a0 ∧ w.cell? ⟨g, 1, none⟩ = some a1 ∧ w.cell? ⟨g, 2, none⟩ = some a2 ∧ w.cell? ⟨g, 3, none⟩ = some a3 ∧ w.cell? ⟨g, 4, none⟩ = some a4 ∧ w.cell? ⟨g, 5, none⟩ = some a5 ∧ w.cell? ⟨g, 6, none⟩ = some a6 ∧ w.cell? ⟨g, 7, none⟩ = some a7 ∧ ∀ j, w.frozen? ⟨g, j, none⟩ = false := ⟨h.cell 0, h.cell 1, h.cell 2, h.cell 3, h.cell 4, h.cell 5, h.cell 6, h.cell 7, h.froz⟩
end Go.Proofs.YtjfdlphkmpkjdaaDoor
namespace Go.Proofs.YtjfdlphkmpkjdaaDoor
open Go.RowKit
set_option linter.unusedVariables false

/-- Where the document's writing stands: what it keeps since W0; its row. -/
structure ESt (w W0 W : World) (v : Value) (ys : List Nat) : Prop where
  keep : ∀ g cs t, Own W0 g cs t → t ≠ 5 → Own W g cs t
  row : Rw W 5 1 v ys.length (nums ys)
  new : ∀ b, v.ownBlock = some b → w.heap.size ≤ b
  bel : Below w.heap.size w W
theorem ESt.drew {w W0 W : World} {v : Value} {ys : List Nat} (h : ESt w W0 W v ys) : ESt w W0 W.drew v ys := ⟨fun g cs t a b => h.keep g cs t a b, h.row, h.new, ⟨h.bel.os, h.bel.tape, h.bel.output, h.bel.size, h.bel.block⟩⟩
theorem ESt.put {w W0 W : World} {v : Value} {ys zs : List Nat} {e : Ending} {W' : World} (h : ESt w W0 W v ys) (hp : PutRet W v zs e W') : ∃ a m c, e = .returned (.slice a m c) ∧ ESt w W0 W' (.slice a m c) zs := by
  obtain ⟨v', rfl, h1, h2, h3⟩ := hp
  obtain ⟨a, c, rfl, -⟩ := h1.shape
  refine ⟨a, _, c, rfl, fun g cs t q1 q2 => (h.keep g cs t q1 q2).fr h3 (h.row.ne (h.keep g cs t q1 q2) (Ne.symm q2)), h1, ?_, ?_⟩
  · intro b hb
    rcases h2 b hb with q | q
    · exact h.new b q
    · exact Nat.le_trans h.bel.size q
  · refine ⟨h3.os.trans h.bel.os, h3.tape.trans h.bel.tape, h3.output.trans h.bel.output, Nat.le_trans h.bel.size h3.size, fun k hk => ?_⟩
    exact (h3.block k (Nat.lt_of_lt_of_le hk h.bel.size) (fun q => by have := h.new k q; omega)).trans (h.bel.block k hk)
theorem ESt.start {w W : World} (hb : Below w.heap.size w W) (op : Nat) : ESt w (W.alloc (.cells #[.int .u8 (op : Int)] 5)) (W.alloc (.cells #[.int .u8 (op : Int)] 5)) (.slice (some ⟨W.heap.size, 0, none⟩) 1 1) [op] := by
  refine ⟨fun g cs t h _ => h, ⟨rfl, .inr ⟨W.heap.size, 1, #[.int .u8 (op : Int)], rfl, Nat.zero_le _, heap_alloc_new W _, Nat.le_refl _, by decide, rfl, rfl⟩⟩, ?_, hb.alloc hb.size _⟩
  intro b q
  cases q
  exact hb.size
theorem ESt.ret {w W0 W : World} {x : In} {v : Value} {ys : List Nat} (h : ESt w W0 W v ys) (he : ys = x.enc) (hok : x.ok = true) {e : Ending} (hr : e = .returned (.tuple #[v, .int .i64 0])) : EncRet w x e W := by
  subst he
  refine ⟨v, ?_, h.row, h.new, h.bel⟩
  rw [hr, hok]; rfl
theorem ESt.cast {w W0 W : World} {v : Value} {ys zs : List Nat} (h : ESt w W0 W v ys) (e : ys = zs) : ESt w W0 W v zs := e ▸ h
def pfx (XA : Int) (n : Nat) : List Nat := ([49] ++ fixN (XA % 18446744073709551616).toNat 1) ++ fixN ((n : Int) % 18446744073709551616).toNat 2
def zsK (XA : Int) (n : Nat) (ar : List (Int × Int)) (k : Nat) : List Nat := pfx XA n ++ ((ar.take k).map putArm).flatten
theorem zsK_length (XA : Int) (n : Nat) (ar : List (Int × Int)) (k : Nat) (h : k ≤ ar.length) : (zsK XA n ar k).length = 4 + k * 12 := by
  unfold zsK pfx
  rw [List.length_append, putArms_flat, List.length_append, List.length_append, fixN_length, fixN_length, List.length_take, Nat.min_eq_left h]; rfl
theorem zsK_succ (XA : Int) (n : Nat) (ar : List (Int × Int)) (k : Nat) (h : k < ar.length) (V : Int × Int) (hV : ar.getD k (0, 0) = V) : (zsK XA n ar k ++ fixN (V.1 % 18446744073709551616).toNat 8) ++ fixN (V.2 % 18446744073709551616).toNat 4 = zsK XA n ar (k + 1) := by
  have e : ar.take (k + 1) = ar.take k ++ [V] := by rw [List.take_succ_eq_append_getElem h]; congr 2; rw [← hV]; simp [List.getD, h]
  unfold zsK
  rw [e, List.map_append, List.flatten_append, List.append_assoc, List.append_assoc]
  first | (congr 1; simp [putArm, Nm.put, nI64, nPlace]; done) | simp [putArm, Nm.put, nI64, nPlace] | rfl
end Go.Proofs.YtjfdlphkmpkjdaaDoor
