/-
  THE PLAIN MATHEMATICS of layer 12 (ops): instructions as bytes, there and back. No Go in sight.
  BLOCKS OF MEMORY, what a call keeps, rows of a call's own, append to them.
  WHAT ALL TEXTS SHARE: bytes and numbers that lie in memory, structs that are written whole, append of bytes, lent bytes, regions that draw and only make memory.
  MODULES: types, texts and functions; how they lie in memory.
-/
import Derived.Laws.MathBits
import Derived.Laws.Bits64b
import Derived.Laws.BitsAllLaws
import Derived.Test.YtjfdlphkmpkjdaaDoorProg
import Derived.WalkKit
import Derived.WalkLawsBesides
import Derived.WalkSpells
import Derived.Handy
import Derived.Outline
import Derived.Below
import Derived.Lib.SmallJoins
import Derived.Lib.SliceRun
import Derived.Maps.AppendAt
import Derived.Maps.Own
import Derived.Maps.Views
import Derived.Laws.BytesArg
import Derived.Laws.AppendOwnNone
import Derived.Laws.CopyRow
import Derived.Deep.MidRow
import Derived.Deep.Cut
import Derived.Deep.CutBlock
import Derived.Deep.Onto
import Derived.Deep.RegionHeld3
import Derived.Deep.LoopGhost
import Derived.Deep.QuietTactic
import Derived.BigQuiet
namespace Go.Proofs.YtjfdlphkmpkjdaaDoor
set_option linter.unusedVariables false

/-! ### Fixed forms -/
def fixN (n k : Nat) : List Nat := (List.range k).map fun i => n / 256 ^ i % 256
def wid : List Nat → Nat
  | [] => 0
  | c :: r => c + 256 * wid r
theorem fixN_length (n k : Nat) : (fixN n k).length = k := by simp [fixN]
theorem fixN_byte (n k : Nat) : ∀ c ∈ fixN n k, c < 256 := by
  intro c hc; simp [fixN] at hc; obtain ⟨i, _, rfl⟩ := hc; omega
theorem wid_snoc : ∀ (l : List Nat) (c : Nat), wid (l ++ [c]) = wid l + c * 256 ^ l.length := by
  intro l
  induction l with
  | nil => intro c; simp [wid]
  | cons a r ih => intro c; simp only [List.cons_append, wid, ih, List.length_cons, Nat.pow_succ]; rw [Nat.mul_add, ← Nat.add_assoc]; congr 1; rw [Nat.mul_comm 256, Nat.mul_assoc]
theorem wid_lt : ∀ (l : List Nat), (∀ c ∈ l, c < 256) → wid l < 256 ^ l.length := by
  intro l
  induction l with
  | nil => intro _; simp [wid]
  | cons a r ih =>
    intro h
    have := ih fun c hc => h c (by simp [hc])
    have ha := h a (by simp)
    simp only [wid, List.length_cons, Nat.pow_succ]; omega
theorem fixN_succ (n k : Nat) : fixN n (k + 1) = fixN n k ++ [n / 256 ^ k % 256] := by simp [fixN, List.range_succ]
theorem wid_fixN (n : Nat) : ∀ k, wid (fixN n k) = n % 256 ^ k := by
  intro k
  induction k with
  | zero => simp [fixN, wid]; omega
  | succ k ih =>
    rw [fixN_succ, wid_snoc, ih, fixN_length, Nat.pow_succ, Nat.mod_mul]
    rw [Nat.mul_comm]
theorem fixN_wid : ∀ (l : List Nat), (∀ c ∈ l, c < 256) → fixN (wid l) l.length = l := by
  intro l
  induction l with
  | nil => intro _; rfl
  | cons a r ih =>
    intro h
    have ha := h a (by simp)
    have hr := ih fun c hc => h c (by simp [hc])
    unfold fixN at hr ⊢
    rw [List.length_cons, List.range_succ_eq_map, List.map_cons, List.map_map]
    congr 1
    · simp [wid]; omega
    · refine Eq.trans ?_ hr
      apply List.map_congr_left
      intro i _
      simp only [Function.comp, wid, Nat.succ_eq_add_one, Nat.pow_succ]
      rw [Nat.mul_comm (256 ^ i) 256, ← Nat.div_div_eq_div_mul]
      congr 2
      omega
theorem fixN_mod (n m k : Nat) (h : n % 256 ^ k = m % 256 ^ k) : fixN n k = fixN m k := by
  have e : ∀ n : Nat, fixN n k = fixN (n % 256 ^ k) k := by
    intro n
    unfold fixN
    apply List.map_congr_left
    intro i hi
    have hik : i < k := by simpa using hi
    obtain ⟨d, rfl⟩ : ∃ d, k = i + (d + 1) := ⟨k - i - 1, by omega⟩
    rw [Nat.pow_add, Nat.mod_mul_right_div_self, Nat.pow_succ, Nat.mul_comm, Nat.mod_mul_right_mod]
  rw [e n, e m, h]

/-! ### A number behind an Op: how many bytes, has it a sign, from where to where -/
structure Nm where
  sz : Nat
  sg : Bool
  lo : Int
  hi : Int
def nNone : Nm := ⟨0, false, 0, 0⟩
def nByte : Nm := ⟨1, false, 0, 255⟩
def nShort : Nm := ⟨2, false, 0, 65535⟩
def nPlace : Nm := ⟨4, false, 0, 4294967295⟩
def nWidth : Nm := ⟨1, false, 1, 3⟩
def nKind : Nm := ⟨1, false, 1, 5⟩
def nI8 : Nm := ⟨1, true, -128, 127⟩
def nI32 : Nm := ⟨4, true, -2147483648, 2147483647⟩
def nI64 : Nm := ⟨8, true, -9223372036854775808, 9223372036854775807⟩
def nVal (w : Int) : Nm := if w = 1 then ⟨8, true, -128, 127⟩ else if w = 2 then ⟨8, true, -2147483648, 2147483647⟩ else nI64
def Nm.may (k : Nm) (n : Int) : Bool := decide (k.lo ≤ n ∧ n ≤ k.hi)
def Nm.val (k : Nm) (u : Nat) : Int := if k.sg = true ∧ 256 ^ k.sz ≤ 2 * u then (u : Int) - 256 ^ k.sz else u
def Nm.put (k : Nm) (n : Int) : List Nat := fixN (n % 18446744073709551616).toNat k.sz
/-- What a number has in bounds is in its bytes. -/
structure Nm.Ok (k : Nm) : Prop where
  sz : k.sz ≤ 8
  zero : k.sz = 0 → k.lo = 0 ∧ k.hi = 0
  lo : if k.sg = true then -(256 ^ k.sz : Int) ≤ 2 * k.lo else 0 ≤ k.lo
  hi : if k.sg = true then 2 * k.hi < 256 ^ k.sz else k.hi < 256 ^ k.sz
  l64 : -9223372036854775808 ≤ k.lo
  h64 : k.hi ≤ 9223372036854775807
theorem okNone : nNone.Ok := by refine ⟨by decide, fun _ => ⟨rfl, rfl⟩, by decide, by decide, by decide, by decide⟩
theorem okByte : nByte.Ok := by refine ⟨by decide, by decide, by decide, by decide, by decide, by decide⟩
theorem okShort : nShort.Ok := by refine ⟨by decide, by decide, by decide, by decide, by decide, by decide⟩
theorem okPlace : nPlace.Ok := by refine ⟨by decide, by decide, by decide, by decide, by decide, by decide⟩
theorem okWidth : nWidth.Ok := by refine ⟨by decide, by decide, by decide, by decide, by decide, by decide⟩
theorem okKind : nKind.Ok := by refine ⟨by decide, by decide, by decide, by decide, by decide, by decide⟩
theorem okI8 : nI8.Ok := by refine ⟨by decide, by decide, by decide, by decide, by decide, by decide⟩
theorem okI32 : nI32.Ok := by refine ⟨by decide, by decide, by decide, by decide, by decide, by decide⟩
theorem okI64 : nI64.Ok := by refine ⟨by decide, by decide, by decide, by decide, by decide, by decide⟩
theorem okVal (w : Int) : (nVal w).Ok := by
  unfold nVal
  split
  · refine ⟨by decide, by decide, by decide, by decide, by decide, by decide⟩
  · split
    · refine ⟨by decide, by decide, by decide, by decide, by decide, by decide⟩
    · exact okI64
theorem val_sz (w : Int) : (nVal w).sz = 8 := by unfold nVal; split; rfl; split <;> rfl
theorem Nm.put_length (k : Nm) (n : Int) : (k.put n).length = k.sz := fixN_length _ _
theorem Nm.put_byte (k : Nm) (n : Int) : ∀ c ∈ k.put n, c < 256 := fixN_byte _ _
theorem pow8 (s : Nat) (h : s ≤ 8) : ∃ q : Nat, 18446744073709551616 = 256 ^ s * q := by
  refine ⟨256 ^ (8 - s), ?_⟩
  rw [← Nat.pow_add, show s + (8 - s) = 8 by omega]
theorem put_wid (k : Nm) (h : k.Ok) (n : Int) : ((wid (k.put n) : Nat) : Int) = n % 256 ^ k.sz := by
  unfold Nm.put
  rw [wid_fixN]
  obtain ⟨q, hq⟩ := pow8 k.sz h.sz
  have h0 : 0 ≤ n % 18446744073709551616 := Int.emod_nonneg _ (by decide)
  rw [Int.natCast_emod, Int.toNat_of_nonneg h0]
  have e : ((256 ^ k.sz : Nat) : Int) = 256 ^ k.sz := by simp
  rw [e]
  exact Int.emod_emod_of_dvd n ⟨(q : Int), by have := congrArg (fun x : Nat => (x : Int)) hq; simpa using this⟩
/-- A number that may be is read again. -/
theorem val_put (k : Nm) (h : k.Ok) (n : Int) (hm : k.may n = true) : k.val (wid (k.put n)) = n := by
  unfold Nm.may at hm
  have hm := of_decide_eq_true hm
  have hw := put_wid k h n
  have hl := h.lo
  have hh := h.hi
  generalize wid (k.put n) = u at *
  unfold Nm.val
  obtain ⟨P, hP⟩ : ∃ P : Nat, 256 ^ k.sz = P := ⟨_, rfl⟩
  have hPi : (256 : Int) ^ k.sz = (P : Int) := by rw [← hP]; simp
  have hpos : 0 < P := by rw [← hP]; exact Nat.pow_pos (by omega)
  rw [hPi] at hw hl hh
  rw [hPi, hP]
  cases hs : k.sg with
  | false =>
    rw [hs] at hl hh
    simp only [Bool.false_eq_true, if_false] at hl hh
    simp only [Bool.false_eq_true, false_and, if_false]
    rw [hw, Int.emod_eq_of_lt (by omega) (by omega)]
  | true =>
    rw [hs] at hl hh
    simp only [if_true] at hl hh
    by_cases hn : 0 ≤ n
    · rw [Int.emod_eq_of_lt hn (by omega)] at hw
      rw [if_neg (by rintro ⟨_, q⟩; omega), hw]
    · have e : n % (P : Int) = n + P := by
        rw [← Int.add_emod_right, Int.emod_eq_of_lt (by omega) (by omega)]
      rw [e] at hw
      rw [if_pos ⟨rfl, by omega⟩]
      omega
/-- Bytes that are read are the number's. -/
theorem put_val (k : Nm) (h : k.Ok) (l : List Nat) (hl : l.length = k.sz) (hb : ∀ c ∈ l, c < 256) : k.put (k.val (wid l)) = l := by
  have hlt := wid_lt l hb
  rw [hl] at hlt
  refine Eq.trans ?_ (fixN_wid l hb)
  rw [hl]
  unfold Nm.put
  apply fixN_mod
  obtain ⟨q, hq⟩ := pow8 k.sz h.sz
  generalize wid l = u at *
  have h0 : 0 ≤ k.val u % 18446744073709551616 := Int.emod_nonneg _ (by decide)
  have hz : (((k.val u % 18446744073709551616).toNat % 256 ^ k.sz : Nat) : Int) = ((u % 256 ^ k.sz : Nat) : Int) := by
    rw [Int.natCast_emod, Int.toNat_of_nonneg h0, Int.natCast_emod]
    have e : ((256 ^ k.sz : Nat) : Int) = 256 ^ k.sz := by simp
    rw [e, Int.emod_emod_of_dvd _ ⟨(q : Int), by have := congrArg (fun x : Nat => (x : Int)) hq; simpa using this⟩]
    unfold Nm.val
    split
    · rw [Int.sub_emod_right]
    · rfl
  exact Int.ofNat_inj.1 hz

/-! ### Reading: where it is, and the error -/
abbrev St := Nat × Nat
def Nm.rd (k : Nm) (xs : List Nat) (s : St) : Int × St :=
  if s.2 ≠ 0 ∨ k.sz = 0 then (0, s)
  else if xs.length < s.1 + k.sz then (0, (s.1, 10))
  else if k.may (k.val (wid ((xs.drop s.1).take k.sz))) = true then (k.val (wid ((xs.drop s.1).take k.sz)), (s.1 + k.sz, 0)) else (0, (s.1, 120))
theorem rd_err (k : Nm) (xs : List Nat) (s : St) (h : s.2 ≠ 0) : k.rd xs s = (0, s) := by unfold Nm.rd; rw [if_pos (.inl h)]
def armsR (k : Nm) (xs : List Nat) : Nat → St → List (Int × Int) × St
  | 0, s => ([], s)
  | n + 1, s =>
    let r := k.rd xs s
    let t := nPlace.rd xs r.2
    if t.2.2 ≠ 0 then ([], t.2) else
      let q := armsR k xs n t.2
      if q.2.2 ≠ 0 then ([], q.2) else ((r.1, t.1) :: q.1, q.2)
structure In where
  op : Nat
  a : Int
  b : Int
  arms : List (Int × Int)
def zI : In := ⟨0, 0, 0, []⟩
structure Lay where
  a : Nm
  b : Nm
  arms : Bool
def lay (op : Nat) : Option Lay :=
  if op = 1 then some ⟨nI8, nNone, false⟩ else if op = 2 then some ⟨nI32, nNone, false⟩ else if op = 3 then some ⟨nI64, nNone, false⟩
  else if op = 6 ∨ op = 7 ∨ op = 8 ∨ op = 50 ∨ op = 36 ∨ (39 ≤ op ∧ op ≤ 45) then some ⟨nShort, nNone, false⟩
  else if op = 37 ∨ op = 38 then some ⟨nShort, nShort, false⟩
  else if op = 23 ∨ op = 24 then some ⟨nKind, nNone, false⟩
  else if 11 ≤ op ∧ op ≤ 28 then some ⟨nWidth, nNone, false⟩
  else if op = 29 then some ⟨nWidth, nWidth, false⟩
  else if op = 46 ∨ op = 47 ∨ op = 48 then some ⟨nPlace, nNone, false⟩
  else if op = 52 then some ⟨nByte, nNone, false⟩
  else if op = 49 then some ⟨nWidth, nPlace, true⟩
  else if 1 ≤ op ∧ op ≤ 52 then some ⟨nNone, nNone, false⟩ else none
def Lay.rdArms (l : Lay) (a : Int) (xs : List Nat) (s : St) : List (Int × Int) × St :=
  if l.arms = true then armsR (nVal a) xs (nShort.rd xs s).1.toNat (nShort.rd xs s).2 else ([], s)
def Lay.rd (l : Lay) (op : Nat) (xs : List Nat) (s : St) : In × St :=
  let a := l.a.rd xs s
  let r := l.rdArms a.1 xs a.2
  let b := l.b.rd xs r.2
  (⟨op, a.1, b.1, r.1⟩, b.2)
def dec (xs : List Nat) (p : Int) : In × Nat × Nat :=
  if p < 0 ∨ (xs.length : Int) ≤ p then (zI, 0, 2) else
  match lay (xs.getD p.toNat 0) with
  | none => (zI, 0, 120)
  | some l => if (l.rd (xs.getD p.toNat 0) xs (p.toNat + 1, 0)).2.2 ≠ 0 then (zI, 0, (l.rd (xs.getD p.toNat 0) xs (p.toNat + 1, 0)).2.2)
    else ((l.rd (xs.getD p.toNat 0) xs (p.toNat + 1, 0)).1, (l.rd (xs.getD p.toNat 0) xs (p.toNat + 1, 0)).2.1, 0)
/-! ### Writing -/
def Lay.hasArms (l : Lay) (a : Int) (ar : List (Int × Int)) : Bool :=
  if l.arms = true then decide (ar.length ≤ 65535) && ar.all (fun y => (nVal a).may y.1 && nPlace.may y.2) else ar.isEmpty
def Lay.has (l : Lay) (x : In) : Bool := l.a.may x.a && (l.b.may x.b && l.hasArms x.a x.arms)
def Lay.size (l : Lay) (n : Nat) : Nat := 1 + l.a.sz + l.b.sz + if l.arms = true then 2 + n * 12 else 0
def putArm (y : Int × Int) : List Nat := nI64.put y.1 ++ nPlace.put y.2
def Lay.putArms (l : Lay) (ar : List (Int × Int)) : List Nat := if l.arms = true then nShort.put ar.length ++ (ar.map putArm).flatten else []
def Lay.put (l : Lay) (x : In) : List Nat := x.op :: (l.a.put x.a ++ (l.putArms x.arms ++ l.b.put x.b))
def In.ok (x : In) : Bool := match lay x.op with | none => false | some l => l.has x
def In.size (x : In) : Nat := match lay x.op with | none => 0 | some l => if l.has x = true then l.size x.arms.length else 0
def In.enc (x : In) : List Nat := match lay x.op with | none => [] | some l => if l.has x = true then l.put x else []
structure Lay.Ok (l : Lay) : Prop where
  a : l.a.Ok
  b : l.b.Ok
  w : l.arms = true → l.a = nWidth
theorem ite_some {c : Prop} [Decidable c] {a l : Lay} {e : Option Lay} (h : (if c then some a else e) = some l) : (c ∧ a = l) ∨ (¬ c ∧ e = some l) := by
  by_cases hc : c
  · rw [if_pos hc] at h; exact .inl ⟨hc, Option.some.inj h⟩
  · rw [if_neg hc] at h; exact .inr ⟨hc, h⟩
theorem lay_ok {op : Nat} {l : Lay} (h : lay op = some l) : l.Ok ∧ 1 ≤ op ∧ op ≤ 52 := by
  unfold lay at h
  rcases ite_some h with ⟨hc, rfl⟩ | ⟨hn0, h⟩
  · exact ⟨⟨okI8, okNone, fun q => by first | rfl | cases q⟩, by omega, by omega⟩
  rcases ite_some h with ⟨hc, rfl⟩ | ⟨hn1, h⟩
  · exact ⟨⟨okI32, okNone, fun q => by first | rfl | cases q⟩, by omega, by omega⟩
  rcases ite_some h with ⟨hc, rfl⟩ | ⟨hn2, h⟩
  · exact ⟨⟨okI64, okNone, fun q => by first | rfl | cases q⟩, by omega, by omega⟩
  rcases ite_some h with ⟨hc, rfl⟩ | ⟨hn3, h⟩
  · exact ⟨⟨okShort, okNone, fun q => by first | rfl | cases q⟩, by omega, by omega⟩
  rcases ite_some h with ⟨hc, rfl⟩ | ⟨hn4, h⟩
  · exact ⟨⟨okShort, okShort, fun q => by first | rfl | cases q⟩, by omega, by omega⟩
  rcases ite_some h with ⟨hc, rfl⟩ | ⟨hn5, h⟩
  · exact ⟨⟨okKind, okNone, fun q => by first | rfl | cases q⟩, by omega, by omega⟩
  rcases ite_some h with ⟨hc, rfl⟩ | ⟨hn6, h⟩
  · exact ⟨⟨okWidth, okNone, fun q => by first | rfl | cases q⟩, by omega, by omega⟩
  rcases ite_some h with ⟨hc, rfl⟩ | ⟨hn7, h⟩
  · exact ⟨⟨okWidth, okWidth, fun q => by first | rfl | cases q⟩, by omega, by omega⟩
  rcases ite_some h with ⟨hc, rfl⟩ | ⟨hn8, h⟩
  · exact ⟨⟨okPlace, okNone, fun q => by first | rfl | cases q⟩, by omega, by omega⟩
  rcases ite_some h with ⟨hc, rfl⟩ | ⟨hn9, h⟩
  · exact ⟨⟨okByte, okNone, fun q => by first | rfl | cases q⟩, by omega, by omega⟩
  rcases ite_some h with ⟨hc, rfl⟩ | ⟨hn10, h⟩
  · exact ⟨⟨okWidth, okPlace, fun q => by first | rfl | cases q⟩, by omega, by omega⟩
  rcases ite_some h with ⟨hc, rfl⟩ | ⟨hn11, h⟩
  · exact ⟨⟨okNone, okNone, fun q => by first | rfl | cases q⟩, by omega, by omega⟩
  cases h
theorem armBytes_length (y : Int × Int) : (putArm y).length = 12 := by simp [putArm, Nm.put_length]; rfl
theorem putArms_flat (ar : List (Int × Int)) : ((ar.map putArm).flatten).length = ar.length * 12 := by
  induction ar with
  | nil => rfl
  | cons y r ih => simp only [List.map_cons, List.flatten_cons, List.length_append, ih, armBytes_length, List.length_cons]; omega
theorem Lay.put_length (l : Lay) (x : In) : (l.put x).length = l.size x.arms.length := by
  unfold Lay.put Lay.size Lay.putArms
  simp only [List.length_cons, List.length_append, Nm.put_length]
  split
  · simp only [List.length_append, Nm.put_length, putArms_flat]; show _ + (2 + _ + _) + 1 = _; omega
  · simp; omega
theorem enc_length (x : In) : x.enc.length = x.size := by
  unfold In.enc In.size
  split
  · rfl
  · split
    · exact Lay.put_length _ x
    · rfl
theorem size_pos (x : In) : x.ok = true ↔ 0 < x.size := by
  unfold In.ok In.size
  split
  · simp
  · rename_i l _
    cases h : l.has x
    · simp
    · simp only [if_true]; unfold Lay.size; simp; omega
theorem enc_byte (x : In) (h : x.op < 256) : ∀ c ∈ x.enc, c < 256 := by
  unfold In.enc
  split
  · simp
  · split
    · rename_i l _ _
      intro c hc
      unfold Lay.put at hc
      rcases List.mem_cons.1 hc with rfl | hc
      · exact h
      · rcases List.mem_append.1 hc with hc | hc
        · exact Nm.put_byte _ _ c hc
        · rcases List.mem_append.1 hc with hc | hc
          · unfold Lay.putArms at hc
            split at hc
            · rcases List.mem_append.1 hc with hc | hc
              · exact Nm.put_byte _ _ c hc
              · obtain ⟨u, hu, hc⟩ := List.mem_flatten.1 hc
                obtain ⟨y, _, rfl⟩ := List.mem_map.1 hu
                rcases List.mem_append.1 hc with hc | hc
                · exact Nm.put_byte _ _ c hc
                · exact Nm.put_byte _ _ c hc
            · cases hc
          · exact Nm.put_byte _ _ c hc
    · simp

/-! ### Bytes that are read are what was written; of fewer it is short -/
structure Rds {α : Type} (R : List Nat → St → α × St) (u : List Nat) (a : α) : Prop where
  whole : ∀ xs p rest, xs.drop p = u ++ rest → R xs (p, 0) = (a, (p + u.length, 0))
  short : ∀ xs p j, j < u.length → xs.drop p = u.take j → (R xs (p, 0)).2.2 = 10
def Passes {α : Type} (R : List Nat → St → α × St) : Prop := ∀ xs s, s.2 ≠ 0 → (R xs s).2 = s
theorem Rds.then {α β : Type} {R : List Nat → St → α × St} {S : α → List Nat → St → β × St} {u v : List Nat} {a : α} {b : β} (h : Rds R u a) (k : Rds (S a) v b) (hp : ∀ c, Passes (S c)) :
    Rds (fun xs s => S (R xs s).1 xs (R xs s).2) (u ++ v) b := by
  refine ⟨fun xs p rest e => ?_, fun xs p j hj e => ?_⟩
  · rw [List.append_assoc] at e
    have e1 := h.whole xs p (v ++ rest) e
    simp only [e1]
    have e2 : xs.drop (p + u.length) = v ++ rest := by rw [← List.drop_drop, e, List.drop_left]
    rw [k.whole xs _ rest e2, List.length_append, Nat.add_assoc]
  · by_cases hju : j < u.length
    · rw [List.take_append_of_le_length (by omega)] at e
      have e1 := h.short xs p j hju e
      have hne : (R xs (p, 0)).2.2 ≠ 0 := by rw [e1]; decide
      show (S (R xs (p, 0)).1 xs (R xs (p, 0)).2).2.2 = 10
      rw [hp _ xs _ hne, e1]
    · obtain ⟨d, rfl⟩ : ∃ d, j = u.length + d := ⟨j - u.length, by omega⟩
      rw [List.take_length_add_append] at e
      have e1 := h.whole xs p (v.take d) e
      show (S (R xs (p, 0)).1 xs (R xs (p, 0)).2).2.2 = 10
      rw [e1]
      exact k.short xs _ d (by rw [List.length_append] at hj; omega) (by rw [← List.drop_drop, e, List.drop_left])
theorem Rds.map {α β : Type} {R : List Nat → St → α × St} {u : List Nat} {a : α} (h : Rds R u a) (f : α → β) : Rds (fun xs s => (f (R xs s).1, (R xs s).2)) u (f a) :=
  ⟨fun xs p rest e => by simp only [h.whole xs p rest e], fun xs p j hj e => h.short xs p j hj e⟩
theorem rd_pass (k : Nm) : Passes k.rd := fun xs s h => by rw [rd_err k xs s h]
theorem rds_num (k : Nm) (h : k.Ok) (n : Int) (hm : k.may n = true) : Rds k.rd (k.put n) n := by
  by_cases h0 : k.sz = 0
  · have hu : k.put n = [] := List.eq_nil_of_length_eq_zero (by rw [k.put_length, h0])
    have hn : n = 0 := by have := of_decide_eq_true hm; have := h.zero h0; omega
    rw [hu]
    refine ⟨fun xs p rest _ => ?_, fun xs p j hj => by cases hj⟩
    unfold Nm.rd
    rw [if_pos (.inr h0), hn]; rfl
  · refine ⟨fun xs p rest e => ?_, fun xs p j hj e => ?_⟩
    · have hl := congrArg List.length e
      rw [List.length_append, List.length_drop, k.put_length] at hl
      have ht : (xs.drop p).take k.sz = k.put n := by rw [e, List.take_append_of_le_length (by rw [k.put_length]; exact Nat.le_refl _), ← k.put_length n, List.take_length]
      unfold Nm.rd
      rw [if_neg (by simp [h0]), if_neg (by simp; omega)]
      simp only [ht, val_put k h n hm, hm, if_true, k.put_length]
    · have hl := congrArg List.length e
      rw [List.length_take, List.length_drop] at hl
      rw [k.put_length] at hj hl
      unfold Nm.rd
      rw [if_neg (by simp [h0]), if_pos (by simp; omega)]
theorem armsR_pass (k : Nm) (xs : List Nat) : ∀ n (s : St), s.2 ≠ 0 → armsR k xs n s = ([], s) := by
  intro n
  cases n with
  | zero => intro s _; rfl
  | succ n =>
    intro s h
    unfold armsR
    simp only [rd_err k xs s h, rd_err nPlace xs s h]
    rw [if_pos h]
theorem armR_split (k : Nm) (n : Nat) : armsR k = fun xs m s => armsR k xs m s := rfl
theorem rds_arms (k : Nm) (h : k.Ok) (h8 : k.sz = 8) : ∀ ar : List (Int × Int), (∀ y ∈ ar, k.may y.1 = true ∧ nPlace.may y.2 = true) → Rds (fun xs s => armsR k xs ar.length s) (ar.map putArm).flatten ar := by
  intro ar
  induction ar with
  | nil => intro _; exact ⟨fun xs p rest _ => rfl, fun xs p j hj => by cases hj⟩
  | cons y r ih =>
    intro hy
    obtain ⟨m1, m2⟩ := hy y (by simp)
    have hr := ih fun z hz => hy z (by simp [hz])
    have pe : k.put y.1 = nI64.put y.1 := by unfold Nm.put; rw [h8]; rfl
    have a1 := rds_num k h y.1 m1
    rw [pe] at a1
    have a2 := rds_num nPlace okPlace y.2 m2
    refine ⟨fun xs p rest e => ?_, fun xs p j hj e => ?_⟩
    · have e0 : xs.drop p = nI64.put y.1 ++ (nPlace.put y.2 ++ ((r.map putArm).flatten ++ rest)) := by rw [e]; simp [putArm, List.append_assoc]
      have e1 := a1.whole xs p _ e0
      have d1 : xs.drop (p + (nI64.put y.1).length) = nPlace.put y.2 ++ ((r.map putArm).flatten ++ rest) := by rw [← List.drop_drop, e0, List.drop_left]
      have e2 := a2.whole xs _ _ d1
      have d2 : xs.drop (p + (nI64.put y.1).length + (nPlace.put y.2).length) = (r.map putArm).flatten ++ rest := by rw [← List.drop_drop, d1, List.drop_left]
      have e3 := hr.whole xs _ _ d2
      simp only [List.length_cons]
      unfold armsR
      simp only [e1, e2, e3]
      simp [putArm, Nat.add_assoc]
    · have e0 : xs.drop p = (nI64.put y.1 ++ (nPlace.put y.2 ++ (r.map putArm).flatten)).take j := by rw [e]; simp [putArm, List.append_assoc]
      have hlen : j < 8 + (4 + ((r.map putArm).flatten).length) := by
        have : (List.map putArm (y :: r)).flatten.length = 8 + (4 + ((r.map putArm).flatten).length) := by simp [putArm, Nm.put_length]; show 8 + (4 + _) = _; rfl
        omega
      have l1 : (nI64.put y.1).length = 8 := Nm.put_length _ _
      have l2 : (nPlace.put y.2).length = 4 := Nm.put_length _ _
      simp only [List.length_cons]
      unfold armsR
      by_cases j1 : j < 8
      · rw [List.take_append_of_le_length (by omega)] at e0
        have e1 := a1.short xs p j (by omega) e0
        have hne : (k.rd xs (p, 0)).2.2 ≠ 0 := by rw [e1]; decide
        simp only [rd_err nPlace xs _ hne]
        rw [if_pos hne, e1]
      · obtain ⟨d, rfl⟩ : ∃ d, j = (nI64.put y.1).length + d := ⟨j - 8, by omega⟩
        rw [List.take_length_add_append] at e0
        have e1 := a1.whole xs p _ e0
        have d1 : xs.drop (p + (nI64.put y.1).length) = (nPlace.put y.2 ++ (r.map putArm).flatten).take d := by rw [← List.drop_drop, e0, List.drop_left]
        simp only [e1]
        by_cases j2 : d < 4
        · rw [List.take_append_of_le_length (by omega)] at d1
          have e2 := a2.short xs _ d (by omega) d1
          rw [if_pos (by rw [e2]; decide), e2]
        · obtain ⟨d', rfl⟩ : ∃ d', d = (nPlace.put y.2).length + d' := ⟨d - 4, by omega⟩
          rw [List.take_length_add_append] at d1
          have e2 := a2.whole xs _ _ d1
          have d2 : xs.drop (p + (nI64.put y.1).length + (nPlace.put y.2).length) = ((r.map putArm).flatten).take d' := by rw [← List.drop_drop, d1, List.drop_left]
          have e3 := hr.short xs _ d' (by omega) d2
          simp only [e2]
          rw [if_neg (by simp), if_pos (by rw [e3]; decide), e3]
theorem rdArms_pass (l : Lay) (a : Int) : Passes (l.rdArms a) := by
  intro xs s h
  unfold Lay.rdArms
  split
  · rw [rd_err nShort xs s h, armsR_pass _ xs _ s h]
  · rfl
theorem rds_rdArms (l : Lay) (a : Int) (ar : List (Int × Int)) (h : l.hasArms a ar = true) : Rds (l.rdArms a) (l.putArms ar) ar := by
  unfold Lay.hasArms at h
  unfold Lay.rdArms Lay.putArms
  split
  · rename_i hl
    rw [if_pos hl] at h
    rw [Bool.and_eq_true, decide_eq_true_eq, List.all_eq_true] at h
    have hy : ∀ y ∈ ar, (nVal a).may y.1 = true ∧ nPlace.may y.2 = true := fun y hy => by simpa using h.2 y hy
    have hs := rds_num nShort okShort (ar.length : Int) (by unfold Nm.may nShort; simp; omega)
    have := hs.then (S := fun n xs s => armsR (nVal a) xs n.toNat s) (b := ar) (by simpa using rds_arms (nVal a) (okVal a) (val_sz a) ar hy) (fun c xs s hs => by show (armsR _ xs _ s).2 = s; rw [armsR_pass _ xs _ s hs])
    simpa using this
  · rename_i hl
    rw [if_neg hl] at h
    rw [List.isEmpty_iff.1 h]
    exact ⟨fun xs p rest _ => rfl, fun xs p j hj => by cases hj⟩
theorem rds_lay (l : Lay) (hl : l.Ok) (x : In) (h : l.has x = true) : Rds (l.rd x.op) (l.a.put x.a ++ (l.putArms x.arms ++ l.b.put x.b)) x := by
  unfold Lay.has at h
  rw [Bool.and_eq_true, Bool.and_eq_true] at h
  obtain ⟨h1, h2, h3⟩ := h
  have r1 := rds_num l.a hl.a x.a h1
  have r2 := rds_rdArms l x.a x.arms h3
  have r3 := rds_num l.b hl.b x.b h2
  have r23 := fun (a : Int) => (fun c : List (Int × Int) => c)
  have t := r1.then (S := fun a xs s => ((⟨x.op, a, (l.b.rd xs (l.rdArms a xs s).2).1, (l.rdArms a xs s).1⟩ : In), (l.b.rd xs (l.rdArms a xs s).2).2)) (v := l.putArms x.arms ++ l.b.put x.b) (b := x)
    (r2.then (S := fun ar xs s => ((⟨x.op, x.a, (l.b.rd xs s).1, ar⟩ : In), (l.b.rd xs s).2)) (b := x) (r3.map fun b => (⟨x.op, x.a, b, x.arms⟩ : In)) (fun c xs s hs => rd_pass l.b xs s hs))
    (fun c xs s hs => by
      show (l.b.rd xs (l.rdArms c xs s).2).2 = s
      rw [rdArms_pass l c xs s hs]; exact rd_pass l.b xs s hs)
  exact t
theorem drop_at {xs u : List Nat} {p c : Nat} (e : xs.drop p = c :: u) : xs.getD p 0 = c ∧ xs.drop (p + 1) = u ∧ p < xs.length := by
  have hp : p < xs.length := by
    have := congrArg List.length e
    rw [List.length_drop, List.length_cons] at this; omega
  rw [List.drop_eq_getElem_cons hp] at e
  injection e with e1 e2
  exact ⟨by simp [List.getD, hp, e1], e2, hp⟩
/-- THERE AND BACK. -/
theorem dec_enc (x : In) (h : x.ok = true) (xs rest : List Nat) (p : Nat) (e : xs.drop p = x.enc ++ rest) : dec xs p = (x, p + x.size, 0) := by
  unfold In.ok at h
  have hs := enc_length x
  unfold In.enc at e hs
  cases hl : lay x.op with
  | none => rw [hl] at h; cases h
  | some l =>
    rw [hl] at h e hs
    simp only at h e hs
    rw [if_pos h] at e hs
    have e' : xs.drop p = x.op :: ((l.a.put x.a ++ (l.putArms x.arms ++ l.b.put x.b)) ++ rest) := by rw [e]; rfl
    have ⟨c1, c2, c3⟩ := drop_at e'
    have hr := (rds_lay l (lay_ok hl).1 x h).whole xs (p + 1) rest c2
    unfold dec
    rw [if_neg (by omega), Int.toNat_natCast, c1, hl]
    simp only [hr]
    rw [if_neg (by simp)]
    congr 1
    congr 1
    have : (l.put x).length = 1 + (l.a.put x.a ++ (l.putArms x.arms ++ l.b.put x.b)).length := by unfold Lay.put; rw [List.length_cons]; omega
    omega
theorem dec_short (x : In) (h : x.ok = true) (i : Nat) (h1 : 1 ≤ i) (h2 : i < x.size) : dec (x.enc.take i) 0 = (zI, 0, 10) := by
  unfold In.ok at h
  have hs := enc_length x
  unfold In.enc at hs ⊢
  cases hl : lay x.op with
  | none => rw [hl] at h; cases h
  | some l =>
    rw [hl] at h hs
    simp only at h hs ⊢
    rw [if_pos h] at hs ⊢
    obtain ⟨j, rfl⟩ : ∃ j, i = j + 1 := ⟨i - 1, by omega⟩
    have e : (l.put x).take (j + 1) = x.op :: (l.a.put x.a ++ (l.putArms x.arms ++ l.b.put x.b)).take j := rfl
    have hlen : (l.put x).length = 1 + (l.a.put x.a ++ (l.putArms x.arms ++ l.b.put x.b)).length := by unfold Lay.put; rw [List.length_cons]; omega
    have hr := (rds_lay l (lay_ok hl).1 x h).short ((l.put x).take (j + 1)) 1 j (by omega) (by rw [e]; rfl)
    have hl0 : ((l.put x).take (j + 1)).length ≠ 0 := by rw [List.length_take]; omega
    unfold dec
    rw [if_neg (by omega)]
    have c1 : ((l.put x).take (j + 1)).getD (0 : Int).toNat 0 = x.op := by rw [e]; rfl
    rw [c1, hl]
    have hr2 : (l.rd x.op ((l.put x).take (j + 1)) ((0 : Int).toNat + 1, 0)).2.2 = 10 := hr
    simp only [hr2]
    rfl

/-! ### What is read is written again -/
theorem rd_forth (k : Nm) (h : k.Ok) (xs : List Nat) (hb : ∀ c ∈ xs, c < 256) (s : St) (n : Int) (s' : St) (e : k.rd xs s = (n, s')) (h0 : s'.2 = 0) (hz : s.1 ≤ xs.length) :
    s.2 = 0 ∧ s'.1 = s.1 + k.sz ∧ s'.1 ≤ xs.length ∧ k.may n = true ∧ k.put n = (xs.drop s.1).take k.sz := by
  unfold Nm.rd at e
  by_cases h1 : s.2 ≠ 0 ∨ k.sz = 0
  · rw [if_pos h1] at e
    cases e
    rcases h1 with h1 | h1
    · exact absurd h0 h1
    · have hzz := h.zero h1
      refine ⟨h0, by omega, by omega, by unfold Nm.may; simp; omega, ?_⟩
      rw [h1]
      exact List.eq_nil_of_length_eq_zero (by rw [k.put_length, h1])
  · rw [if_neg h1] at e
    have hs0 : s.2 = 0 := by by_cases q : s.2 = 0; exact q; exact absurd (.inl q) h1
    by_cases h2 : xs.length < s.1 + k.sz
    · rw [if_pos h2] at e; cases e; cases h0
    · rw [if_neg h2] at e
      by_cases h3 : k.may (k.val (wid ((xs.drop s.1).take k.sz))) = true
      · rw [if_pos h3] at e
        cases e
        exact ⟨hs0, rfl, by show s.1 + k.sz ≤ _; omega, h3, put_val k h _ (by rw [List.length_take, List.length_drop]; omega) (fun c hc => hb c (List.mem_of_mem_drop (List.mem_of_mem_take hc)))⟩
      · rw [if_neg h3] at e; cases e; cases h0
theorem take_take_drop (xs : List Nat) (p a b : Nat) : (xs.drop p).take a ++ (xs.drop (p + a)).take b = (xs.drop p).take (a + b) := by
  rw [List.take_add, List.drop_drop]
theorem arms_forth (k : Nm) (h : k.Ok) (h8 : k.sz = 8) (xs : List Nat) (hb : ∀ c ∈ xs, c < 256) : ∀ n (s : St) (ar : List (Int × Int)) (s' : St), armsR k xs n s = (ar, s') → s'.2 = 0 → s.1 ≤ xs.length →
    s.2 = 0 ∧ ar.length = n ∧ s'.1 = s.1 + n * 12 ∧ s'.1 ≤ xs.length ∧ (∀ y ∈ ar, k.may y.1 = true ∧ nPlace.may y.2 = true) ∧ (ar.map putArm).flatten = (xs.drop s.1).take (n * 12) := by
  intro n
  induction n with
  | zero => intro s ar s' e h0 hz; cases e; exact ⟨h0, rfl, by omega, hz, by simp, by simp⟩
  | succ n ih =>
    intro s ar s' e h0 hz
    unfold armsR at e
    cases e1 : k.rd xs s with
    | mk v s1 =>
    cases e2 : nPlace.rd xs s1 with
    | mk t s2 =>
    cases e3 : armsR k xs n s2 with
    | mk r s3 =>
    simp only [e1, e2, e3] at e
    by_cases q1 : s2.2 = 0
    · rw [if_neg (by omega)] at e
      by_cases q2 : s3.2 = 0
      · rw [if_neg (by omega)] at e
        cases e
        have hs1 : s1.1 ≤ xs.length := by
          by_cases q0 : s1.2 = 0
          · exact (rd_forth k h xs hb s v s1 e1 q0 hz).2.2.1
          · rw [rd_err nPlace xs s1 q0] at e2; cases e2; exact absurd q1 q0
        obtain ⟨b1, b2, b3, b4, b5⟩ := rd_forth nPlace okPlace xs hb s1 t s2 e2 q1 hs1
        obtain ⟨a1, a2, a3, a4, a5⟩ := rd_forth k h xs hb s v s1 e1 b1 hz
        obtain ⟨c1, c2, c3, c4, c5, c6⟩ := ih s2 r _ e3 q2 b3
        have z4 : nPlace.sz = 4 := rfl
        rw [z4] at b2 b5
        rw [h8] at a2 a5
        refine ⟨a1, by simp [c2], by omega, c4, ?_, ?_⟩
        · intro y hy
          rcases List.mem_cons.1 hy with rfl | hy
          · exact ⟨a4, b4⟩
          · exact c5 y hy
        · have pe : k.put v = nI64.put v := by unfold Nm.put; rw [h8]; rfl
          show (nI64.put v ++ nPlace.put t) ++ (r.map putArm).flatten = _
          rw [c6, ← pe, a5, b5, b2, a2, List.append_assoc, take_take_drop, take_take_drop]
          congr 1
          omega
      · rw [if_pos q2] at e; cases e; exact absurd h0 q2
    · rw [if_pos q1] at e; cases e; exact absurd h0 q1
theorem lay_forth (l : Lay) (hl : l.Ok) (op : Nat) (xs : List Nat) (hb : ∀ c ∈ xs, c < 256) (s : St) (x : In) (s' : St) (e : l.rd op xs s = (x, s')) (h0 : s'.2 = 0) (hz : s.1 ≤ xs.length) :
    x.op = op ∧ s.1 ≤ s'.1 ∧ s'.1 ≤ xs.length ∧ l.has x = true ∧ l.a.put x.a ++ (l.putArms x.arms ++ l.b.put x.b) = (xs.drop s.1).take (s'.1 - s.1) ∧ s'.1 = s.1 + (l.size x.arms.length - 1) := by
  unfold Lay.rd at e
  cases e1 : l.a.rd xs s with
  | mk a s1 =>
  cases e2 : l.rdArms a xs s1 with
  | mk ar s2 =>
  cases e3 : l.b.rd xs s2 with
  | mk b s3 =>
  simp only [e1, e2, e3] at e
  cases e
  have q2 : s2.2 = 0 := by
    by_cases q2 : s2.2 = 0
    · exact q2
    · rw [rd_err l.b xs s2 q2] at e3; cases e3; exact absurd h0 q2
  have q1 : s1.2 = 0 := by
    by_cases q1 : s1.2 = 0
    · exact q1
    · have := rdArms_pass l a xs s1 q1; rw [e2] at this; simp only at this; rw [this] at q2; exact absurd q2 q1
  obtain ⟨a1, a2, a3, a4, a5⟩ := rd_forth l.a hl.a xs hb s a s1 e1 q1 hz
  have harms : s2.1 = s1.1 + (l.putArms ar).length ∧ s2.1 ≤ xs.length ∧ l.hasArms a ar = true ∧ l.putArms ar = (xs.drop s1.1).take (l.putArms ar).length := by
    unfold Lay.rdArms at e2
    unfold Lay.putArms Lay.hasArms
    by_cases ha : l.arms = true
    · rw [if_pos ha] at e2 ⊢
      rw [if_pos ha]
      cases e4 : nShort.rd xs s1 with
      | mk n s4 =>
      rw [e4] at e2
      have q4 : s4.2 = 0 := by
        by_cases q4 : s4.2 = 0
        · exact q4
        · rw [armsR_pass _ xs _ s4 q4] at e2; cases e2; exact absurd q2 q4
      obtain ⟨n1, n2, n3, n4, n5⟩ := rd_forth nShort okShort xs hb s1 n s4 e4 q4 a3
      obtain ⟨m1, m2, m3, m4, m5, m6⟩ := arms_forth (nVal a) (okVal a) (val_sz a) xs hb n.toNat s4 ar s2 e2 q2 n3
      have hn := of_decide_eq_true n4
      have hn2 : 0 ≤ n ∧ n ≤ 65535 := hn
      have hnl : (ar.length : Int) = n := by omega
      rw [hnl]
      have z2 : nShort.sz = 2 := rfl
      rw [z2] at n2 n5
      have hlen : (nShort.put n ++ (ar.map putArm).flatten).length = 2 + n.toNat * 12 := by rw [List.length_append, Nm.put_length, putArms_flat, m2]; rfl
      rw [hlen]
      refine ⟨by omega, m4, ?_, ?_⟩
      · rw [Bool.and_eq_true, decide_eq_true_eq, List.all_eq_true]
        exact ⟨by omega, fun y hy => by simpa using m5 y hy⟩
      · rw [n5, m6, n2, take_take_drop]
    · rw [if_neg ha] at e2 ⊢
      rw [if_neg ha]
      cases e2
      exact ⟨by simp, a3, rfl, by simp⟩
  obtain ⟨r1, r2, r3, r4⟩ := harms
  obtain ⟨b1, b2, b3, b4, b5⟩ := rd_forth l.b hl.b xs hb s2 b s' e3 h0 r2
  have hsz : l.size ar.length = 1 + l.a.sz + (l.putArms ar).length + l.b.sz := by
    unfold Lay.size Lay.putArms
    split
    · rw [List.length_append, Nm.put_length, putArms_flat]; show _ = 1 + l.a.sz + (2 + _) + _; omega
    · simp
  refine ⟨rfl, by show s.1 ≤ s'.1; omega, b3, ?_, ?_, ?_⟩
  · unfold Lay.has
    simp only [a4, b4, r3, Bool.and_true]
  · show l.a.put a ++ (l.putArms ar ++ l.b.put b) = _
    rw [a5, r4, b5, r1, a2, take_take_drop, take_take_drop]
    congr 1
    omega
  · show s'.1 = s.1 + (l.size ar.length - 1)
    rw [hsz]; omega
theorem dec_forth (xs : List Nat) (hb : ∀ c ∈ xs, c < 256) (p : Int) (x : In) (q : Nat) (e : dec xs p = (x, q, 0)) :
    0 ≤ p ∧ p < q ∧ q ≤ xs.length ∧ x.ok = true ∧ x.enc = (xs.drop p.toNat).take (q - p.toNat) ∧ (x.size : Int) = q - p ∧ x.op < 256 := by
  unfold dec at e
  by_cases h1 : p < 0 ∨ (xs.length : Int) ≤ p
  · rw [if_pos h1] at e; cases e
  · rw [if_neg h1] at e
    obtain ⟨k, rfl⟩ := Int.eq_ofNat_of_zero_le (show 0 ≤ p by omega)
    rw [Int.toNat_natCast] at e ⊢
    have hk : k < xs.length := by omega
    cases hl : lay (xs.getD k 0) with
    | none => rw [hl] at e; cases e
    | some l =>
      rw [hl] at e
      simp only at e
      cases hr : l.rd (xs.getD k 0) xs (k + 1, 0) with
      | mk x' s' =>
      obtain ⟨q', e'⟩ := s'
      rw [hr] at e
      simp only at e
      by_cases h2 : e' ≠ 0
      · rw [if_pos h2] at e
        exact absurd (Prod.mk.inj (Prod.mk.inj e).2).2 h2
      · rw [if_neg h2] at e
        have h2' : e' = 0 := by omega
        subst h2'
        obtain ⟨e1, e2⟩ := Prod.mk.inj e
        obtain ⟨e2, -⟩ := Prod.mk.inj e2
        have e1 := e1.symm
        have e2 := e2.symm
        subst e1
        subst e2
        obtain ⟨g1, g2, g3, g4, g5, g6⟩ := lay_forth l (lay_ok hl).1 (xs.getD k 0) xs hb (k + 1, 0) _ _ hr rfl (by show k + 1 ≤ _; omega)
        rw [← g1] at hl
        have hok : x.ok = true := by unfold In.ok; rw [hl]; exact g4
        have hsz : x.size = l.size x.arms.length := by unfold In.size; rw [hl]; simp only [g4, if_true]
        have hge : 1 ≤ l.size x.arms.length := by unfold Lay.size; omega
        simp only at g2 g6
        refine ⟨by omega, by omega, g3, hok, ?_, by omega, ?_⟩
        · unfold In.enc
          rw [hl]
          simp only [g4, if_true]
          unfold Lay.put
          simp only at g5
          rw [g5, g1]
          obtain ⟨d, rfl⟩ : ∃ d, q = k + 1 + d := ⟨q - (k + 1), by omega⟩
          rw [show k + 1 + d - (k + 1) = d by omega, show k + 1 + d - k = d + 1 by omega, List.drop_eq_getElem_cons hk, List.take_succ_cons]
          simp [List.getD, hk]
        · rw [g1]
          simp only [List.getD, List.getElem?_eq_getElem hk, Option.getD_some]
          exact hb _ (List.getElem_mem hk)
theorem dec_bad (xs : List Nat) (p : Int) (h : (dec xs p).2.2 ≠ 0) : dec xs p = (zI, 0, (dec xs p).2.2) := by
  unfold dec at h ⊢
  split
  · rfl
  · rename_i h1
    rw [if_neg h1] at h
    split
    · rfl
    · rename_i l hl
      rw [hl] at h
      simp only at h
      split
      · rfl
      · rename_i h2
        rw [if_neg h2] at h
        exact absurd rfl h

/-! ### All of them -/
def allR (xs : List Nat) : Nat → Nat → List In × List Nat × Nat
  | 0, _ => ([], [], 0)
  | f + 1, p => if xs.length ≤ p then ([], [], 0) else
    let d := dec xs p
    if d.2.2 ≠ 0 then ([], [], d.2.2) else
      let r := allR xs f d.2.1
      if r.2.2 ≠ 0 then ([], [], r.2.2) else (d.1 :: r.1, p :: r.2.1, 0)
def allD (xs : List Nat) : List In × List Nat × Nat := allR xs xs.length 0
def places : Nat → List In → List Nat
  | _, [] => []
  | p, x :: r => p :: places (p + x.size) r
theorem allR_enc (xs : List Nat) : ∀ (l : List In) (f p : Nat), (∀ x ∈ l, x.ok = true) → xs.drop p = (l.map In.enc).flatten → xs.length ≤ p + f → allR xs f p = (l, places p l, 0) := by
  intro l
  induction l with
  | nil =>
    intro f p _ e _
    have hp : xs.length ≤ p := by
      have := congrArg List.length e
      rw [List.length_drop] at this; simp at this; omega
    cases f with
    | zero => rfl
    | succ f => unfold allR; rw [if_pos hp]; rfl
  | cons x r ih =>
    intro f p h e hf
    have hx := h x (by simp)
    rw [List.map_cons, List.flatten_cons] at e
    have hd := dec_enc x hx xs _ p e
    have hpos := (size_pos x).1 hx
    have hl := congrArg List.length e
    rw [List.length_drop, List.length_append, enc_length] at hl
    have e2 : xs.drop (p + x.size) = (r.map In.enc).flatten := by rw [← List.drop_drop, e, ← enc_length, List.drop_left]
    cases f with
    | zero => omega
    | succ f =>
      unfold allR
      rw [if_neg (by omega)]
      simp only [hd]
      rw [if_neg (by simp), ih f (p + x.size) (fun y hy => h y (by simp [hy])) e2 (by omega)]
      rfl
end Go.Proofs.YtjfdlphkmpkjdaaDoor
namespace Go.Proofs.YtjfdlphkmpkjdaaDoor
open Go.RowKit
set_option linter.unusedVariables false

/-! ### Blocks of memory -/
def Own (w : World) (g : Nat) (cs : Array Value) (t : TypeId) : Prop := w.heap[g]? = some (Obj.cells cs t (0, 0))
theorem Own.lt {w : World} {g : Nat} {cs : Array Value} {t : TypeId} (h : Own w g cs t) : g < w.heap.size := (Array.getElem?_eq_some_iff.1 h).1
theorem Own.new (w : World) (cs : Array Value) (t : TypeId) : Own (w.alloc (.cells cs t)) w.heap.size cs t := heap_alloc_new w _
theorem Own.alloc {w : World} {g : Nat} {cs : Array Value} {t : TypeId} (h : Own w g cs t) (o : Obj) : Own (w.alloc o) g cs t := (Below.heap_alloc w o g h.lt).trans h
theorem Own.drew {w : World} {g : Nat} {cs : Array Value} {t : TypeId} (h : Own w g cs t) : Own w.drew g cs t := h
theorem Own.other {w : World} {g g' i : Nat} {cs : Array Value} {t : TypeId} (h : Own w g cs t) (hne : g ≠ g') (u : Value) : Own (w.setCell ⟨g', i, none⟩ u) g cs t := (Below.heap_setCell w ⟨g', i, none⟩ u g hne).trans h
theorem Own.ne {w : World} {g g' : Nat} {cs cs' : Array Value} {t t' : TypeId} (h : Own w g cs t) (h' : Own w g' cs' t') (ht : t ≠ t') : g ≠ g' := by
  rintro rfl
  unfold Own at h h'
  rw [h] at h'
  cases h'
  exact ht rfl
theorem heap_set (w : World) (g i : Nat) (cs : Array Value) (t : TypeId) (fr : Nat × Nat) (b : Value) (h : w.heap[g]? = some (.cells cs t fr)) :
    (w.setCell ⟨g, i, none⟩ b).heap[g]? = some (.cells (cs.setIfInBounds i b) t fr) := by
  simp [World.setCell, Array.getElem?_modify, h]
theorem Own.set {w : World} {g : Nat} {cs : Array Value} {t : TypeId} (h : Own w g cs t) (i : Nat) (u : Value) : Own (w.setCell ⟨g, i, none⟩ u) g (cs.setIfInBounds i u) t := heap_set w g i _ t (0, 0) u h
theorem Own.cell {w : World} {g : Nat} {cs : Array Value} {t : TypeId} (h : Own w g cs t) (i : Nat) : w.cell? ⟨g, i, none⟩ = cs[i]? := cell_of_row _ g i _ _ _ h
theorem Own.froz {w : World} {g : Nat} {cs : Array Value} {t : TypeId} (h : Own w g cs t) (i : Nat) : w.frozen? ⟨g, i, none⟩ = false := by unfold Own at h; simp [World.frozen?, h]

/-! ### What a call keeps: all old blocks but those of F -/
structure Fr (F : Nat → Prop) (w w' : World) : Prop where
  os : w'.os = w.os
  tape : w'.tape = w.tape
  output : w'.output = w.output
  size : w.heap.size ≤ w'.heap.size
  block : ∀ k, k < w.heap.size → ¬ F k → w'.heap[k]? = w.heap[k]?
theorem Fr.refl (F : Nat → Prop) (w : World) : Fr F w w := ⟨rfl, rfl, rfl, Nat.le_refl _, fun _ _ _ => rfl⟩
theorem Fr.trans {F : Nat → Prop} {a b c : World} (h : Fr F a b) (k : Fr F b c) : Fr F a c :=
  ⟨k.os.trans h.os, k.tape.trans h.tape, k.output.trans h.output, Nat.le_trans h.size k.size, fun i hi hn => (k.block i (Nat.lt_of_lt_of_le hi h.size) hn).trans (h.block i hi hn)⟩
theorem Fr.mono {F G : Nat → Prop} {a b : World} (h : Fr F a b) (hg : ∀ k, k < a.heap.size → F k → G k) : Fr G a b := ⟨h.os, h.tape, h.output, h.size, fun k hk hn => h.block k hk fun e => hn (hg k hk e)⟩
/-- One behind the other, the second one with blocks that the first has made. -/
theorem Fr.then {F G : Nat → Prop} {a b c : World} (h : Fr F a b) (k : Fr G b c) (hg : ∀ i, i < a.heap.size → G i → F i) : Fr F a c :=
  ⟨k.os.trans h.os, k.tape.trans h.tape, k.output.trans h.output, Nat.le_trans h.size k.size, fun i hi hn => (k.block i (Nat.lt_of_lt_of_le hi h.size) fun e => hn (hg i hi e)).trans (h.block i hi hn)⟩
theorem Fr.of {F : Nat → Prop} {w w' : World} (h : Below w.heap.size w w') : Fr F w w' := ⟨h.os, h.tape, h.output, h.size, fun k hk _ => h.block k hk⟩
theorem Fr.alloc {F : Nat → Prop} {a w : World} (h : Fr F a w) (o : Obj) : Fr F a (w.alloc o) := h.trans (Fr.of ((Below.refl _ _).alloc (Nat.le_refl _) o))
theorem Fr.drew {F : Nat → Prop} {a w : World} (h : Fr F a w) : Fr F a w.drew := ⟨h.os, h.tape, h.output, h.size, h.block⟩
theorem Fr.set {F : Nat → Prop} {a w : World} (h : Fr F a w) {g : Nat} (hg : a.heap.size ≤ g ∨ F g) (i : Nat) (u : Value) : Fr F a (w.setCell ⟨g, i, none⟩ u) :=
  ⟨h.os, h.tape, h.output, Nat.le_trans h.size (by simp [World.setCell]), fun k hk hn => (Below.heap_setCell w ⟨g, i, none⟩ u k (by show k ≠ g; rintro rfl; rcases hg with hg | hg; omega; exact hn hg)).trans (h.block k hk hn)⟩
theorem Fr.grown {F : Nat → Prop} {a w w' : World} {row : Option Nat} (h : Fr F a w) (hg : w.grownBy w' row) (hr : ∀ k, k < a.heap.size → row = some k → F k) : Fr F a w' :=
  ⟨hg.os.trans h.os, hg.tape.trans h.tape, hg.output.trans h.output, Nat.le_trans h.size hg.size, fun k hk hn => (hg.block k (Nat.lt_of_lt_of_le hk h.size) (fun e => hn (hr k hk e.symm))).trans (h.block k hk hn)⟩
theorem Fr.below {w w' : World} (h : Fr (fun _ => False) w w') : Below w.heap.size w w' := ⟨h.os, h.tape, h.output, h.size, fun k hk => h.block k hk fun e => e⟩
theorem Own.fr {F : Nat → Prop} {w w' : World} {g : Nat} {cs : Array Value} {t : TypeId} (h : Own w g cs t) (hk : Fr F w w') (hne : ¬ F g) : Own w' g cs t := (hk.block g h.lt hne).trans h
theorem Own.grown {w w' : World} {g : Nat} {cs : Array Value} {t : TypeId} {row : Option Nat} (h : Own w g cs t) (hg : w.grownBy w' row) (hne : some g ≠ row) : Own w' g cs t := (hg.block g h.lt hne).trans h
theorem Own.below {w w' : World} {g : Nat} {cs : Array Value} {t : TypeId} (h : Own w g cs t) (hk : Below w.heap.size w w') : Own w' g cs t := (hk.block g h.lt).trans h

/-! ### Rows of the call's own -/
/-- A row of n parts of type e: in a block that holds such parts alone. -/
def Rw (w : World) (e : TypeId) (size : Nat) (v : Value) (n : Nat) (xs : List Value) : Prop := w.ownsRow 0 e size v n xs
theorem Rw.lt {w : World} {e : TypeId} {size : Nat} {v : Value} {n : Nat} {xs : List Value} (h : Rw w e size v n xs) {k : Nat} (hk : v.ownBlock = some k) : k < w.heap.size := (World.ownsRow.lt h k hk).2
theorem Rw.on {w w' : World} {e : TypeId} {size : Nat} {v : Value} {n : Nat} {xs : List Value} (h : Rw w e size v n xs) (hb : ∀ k, v.ownBlock = some k → w'.heap[k]? = w.heap[k]?) : Rw w' e size v n xs := by
  refine ⟨h.1, ?_⟩
  rcases h.2 with q | ⟨g, cap, cur, rfl, h1, h2, h3⟩
  · exact .inl q
  · exact .inr ⟨g, cap, cur, rfl, h1, (hb g rfl).trans h2, h3⟩
theorem Rw.fr {F : Nat → Prop} {w w' : World} {e : TypeId} {size : Nat} {v : Value} {n : Nat} {xs : List Value} (h : Rw w e size v n xs) (hk : Fr F w w') (hne : ∀ k, v.ownBlock = some k → ¬ F k) : Rw w' e size v n xs :=
  h.on fun k e => hk.block k (h.lt e) (hne k e)
theorem Rw.grown {w w' : World} {e : TypeId} {size : Nat} {v : Value} {n : Nat} {xs : List Value} {row : Option Nat} (h : Rw w e size v n xs) (hg : w.grownBy w' row) (hne : ∀ k, v.ownBlock = some k → some k ≠ row) : Rw w' e size v n xs :=
  h.on fun k e => hg.block k (h.lt e) (hne k e)
theorem Rw.alloc {w : World} {e : TypeId} {size : Nat} {v : Value} {n : Nat} {xs : List Value} (h : Rw w e size v n xs) (o : Obj) : Rw (w.alloc o) e size v n xs := World.ownsRow.alloc h o
theorem Rw.drew {w : World} {e : TypeId} {size : Nat} {v : Value} {n : Nat} {xs : List Value} (h : Rw w e size v n xs) : Rw w.drew e size v n xs := h
theorem Rw.set {w : World} {e : TypeId} {size : Nat} {v : Value} {n : Nat} {xs : List Value} (h : Rw w e size v n xs) {g : Nat} (hne : v.ownBlock ≠ some g) (i : Nat) (u : Value) : Rw (w.setCell ⟨g, i, none⟩ u) e size v n xs :=
  h.on fun k e => Below.heap_setCell w ⟨g, i, none⟩ u k (by show k ≠ g; rintro rfl; exact hne e)
/-- The row's block is of its type: apart from every block of another. -/
theorem Rw.ne {w : World} {e : TypeId} {size : Nat} {v : Value} {n : Nat} {xs : List Value} (h : Rw w e size v n xs) {g : Nat} {cs : Array Value} {t : TypeId} (ho : Own w g cs t) (ht : e ≠ t) : v.ownBlock ≠ some g := by
  rcases h.2 with ⟨rfl, _⟩ | ⟨g', cap, cur, rfl, _, hg, _⟩
  · simp [Value.ownBlock]
  · intro q
    simp [Value.ownBlock] at q
    subst q
    unfold Own at ho
    rw [hg] at ho
    cases ho
    exact ht rfl
theorem Rw.ne2 {w : World} {e e' : TypeId} {size size' : Nat} {v v' : Value} {n n' : Nat} {xs xs' : List Value} (h : Rw w e size v n xs) (h' : Rw w e' size' v' n' xs') (ht : e ≠ e') : ∀ k, v.ownBlock = some k → v'.ownBlock ≠ some k := by
  intro k hk
  rcases h.2 with ⟨rfl, _⟩ | ⟨g, cap, cur, rfl, _, hg, _⟩
  · simp [Value.ownBlock] at hk
  · simp [Value.ownBlock] at hk
    subst hk
    exact h'.ne (show Own w g cur e from hg) (Ne.symm ht)
theorem Rw.shape {w : World} {e : TypeId} {size : Nat} {v : Value} {n : Nat} {xs : List Value} (h : Rw w e size v n xs) : ∃ ao cap, v = .slice ao n cap ∧ n ≤ cap ∧ cap ≤ maxLen := by
  rcases h.2 with ⟨rfl, h0⟩ | ⟨g, cap, cur, rfl, _, hg, h1, h2, _⟩
  · exact ⟨none, 0, by rw [h0], by omega, by unfold maxLen; omega⟩
  · exact ⟨_, cap, rfl, h1, h2⟩
/-- A row that has parts lies in a block. -/
theorem Rw.block {w : World} {e : TypeId} {size : Nat} {v : Value} {n : Nat} {xs : List Value} (h : Rw w e size v n xs) (hn : 0 < n) : ∃ g cap cur, v = .slice (some ⟨g, 0, none⟩) n cap ∧ Own w g cur e ∧ n ≤ cap ∧ cap ≤ maxLen ∧ cur.size = cap * size ∧ cur.toList.take (n * size) = xs := by
  rcases h.2 with ⟨rfl, h0⟩ | ⟨g, cap, cur, rfl, _, hg, h1, h2, h3, h4⟩
  · omega
  · exact ⟨g, cap, cur, rfl, hg, h1, h2, h3, h4⟩
theorem Rw.cells {w : World} {e : TypeId} {size : Nat} {g n cap : Nat} {xs : List Value} (h : Rw w e size (.slice (some ⟨g, 0, none⟩) n cap) n xs) (j : Nat) (u : Value) (hu : xs[j]? = some u) : w.cell? ⟨g, j, none⟩ = some u := by
  have := World.ownsRow.cells h (g := g) rfl j u hu
  have hadd : (⟨g, 0, none⟩ : Addr).add j = ⟨g, j, none⟩ := by unfold Addr.add; split <;> simp_all
  rwa [hadd] at this
theorem ba_eq (a b : ByteArray) : (a.toList == b.toList) = decide (a = b) := by
  rw [ByteArray.toList_eq, ByteArray.toList_eq, Bool.eq_iff_iff]
  simp only [beq_iff_eq, decide_eq_true_eq]
  constructor
  · intro h
    cases a; cases b
    simp only at h
    congr 1
    exact Array.toList_inj.mp h
  · intro h; rw [h]
theorem Own.drewN {w : World} {g : Nat} {cs : Array Value} {t : TypeId} (h : Own w g cs t) (q : Nat) : Own (w.drewN q) g cs t := h
theorem Fr.drewN {F : Nat → Prop} {a w : World} (h : Fr F a w) (q : Nat) : Fr F a (w.drewN q) := ⟨h.os, h.tape, h.output, h.size, h.block⟩
theorem Rw.drewN {w : World} {e : TypeId} {size : Nat} {v : Value} {n : Nat} {xs : List Value} (h : Rw w e size v n xs) (q : Nat) : Rw (w.drewN q) e size v n xs := h
theorem below_drewN (w : World) (q : Nat) : Below w.heap.size w (w.drewN q) := ⟨rfl, rfl, rfl, Nat.le_refl _, fun _ _ => rfl⟩
theorem own1 {w : World} {g : Nat} {a0 : Value} {t : TypeId} (h : Own w g #[a0] t) : w.cell? ⟨g, 0, none⟩ = some a0 ∧ ∀ j, w.frozen? ⟨g, j, none⟩ = false := ⟨h.cell 0, h.froz⟩
theorem own2 {w : World} {g : Nat} {a0 a1 : Value} {t : TypeId} (h : Own w g #[a0, a1] t) : w.cell? ⟨g, 0, none⟩ = some a0 ∧ w.cell? ⟨g, 1, none⟩ = some a1 ∧ ∀ j, w.frozen? ⟨g, j, none⟩ = false := ⟨h.cell 0, h.cell 1, h.froz⟩
theorem own3 {w : World} {g : Nat} {a0 a1 a2 : Value} {t : TypeId} (h : Own w g #[a0, a1, a2] t) : w.cell? ⟨g, 0, none⟩ = some a0 ∧ w.cell? ⟨g, 1, none⟩ = some a1 ∧ w.cell? ⟨g, 2, none⟩ = some a2 ∧ ∀ j, w.frozen? ⟨g, j, none⟩ = false := ⟨h.cell 0, h.cell 1, h.cell 2, h.froz⟩
theorem own4 {w : World} {g : Nat} {a0 a1 a2 a3 : Value} {t : TypeId} (h : Own w g #[a0, a1, a2, a3] t) : w.cell? ⟨g, 0, none⟩ = some a0 ∧ w.cell? ⟨g, 1, none⟩ = some a1 ∧ w.cell? ⟨g, 2, none⟩ = some a2 ∧ w.cell? ⟨g, 3, none⟩ = some a3 ∧ ∀ j, w.frozen? ⟨g, j, none⟩ = false := ⟨h.cell 0, h.cell 1, h.cell 2, h.cell 3, h.froz⟩
abbrev ptr (p : Nat) : Value := .pointer (some ⟨p, 0, none⟩)
theorem addr_add (b j : Nat) : (⟨b, 0, none⟩ : Addr).add j = ⟨b, j, none⟩ := by unfold Addr.add; split <;> simp_all
structure ElemOk (tS e : TypeId) (z : Value) (size bytes : Nat) : Prop where
  under : Tryd.prog.underlying tS = some (.slice e)
  info : (Tryd.prog.info? e).map (fun i => (i.zero, i.size, i.bytes)) = some (some z, size, bytes)
  zs : z.cells.size = size
  pos : 0 < size
  small : bytes ≤ 1000
/-- append of one part that lies in a block of its own. -/
theorem run_app1 {tS e : TypeId} {z : Value} {size bytes : Nat} (I : ElemOk tS e z size bytes) (W : World) (ty : TypeId) (v : Value) (n : Nat) (xs : List Value) (hown : Rw W e size v n xs) (b : Nat) (cs : List Value) (hb : Own W b cs.toArray e) (hl : cs.length = size) (h1 : ∀ u ∈ cs, u.oneCell' = true) (h63 : n ≤ 10000000) :
    ∃ ao cap w', (Builtin.append_ #[tS, tS] ty #[v, .slice (some ⟨b, 0, none⟩) 1 1]).run Tryd.prog W = .ok (.slice ao (n + 1) cap) w' ∧ Rw w' e size (.slice ao (n + 1) cap) (n + 1) (xs ++ cs) ∧ W.grownBy w' v.ownBlock ∧ ((Value.slice ao (n + 1) cap).ownBlock = v.ownBlock ∨ (Value.slice ao (n + 1) cap).ownBlock = some W.heap.size) := by
  obtain ⟨i8, hi, hz0, hz1, hz2⟩ := info_parts I.info
  have hsm := I.small
  have h8 : (n + 1) * bytes ≤ 140737488355328 := Nat.le_trans (Nat.mul_le_mul_left (n + 1) hsm) (by omega)
  obtain ⟨v', w', hr, g1, g2, _, g4⟩ := run_append_own_at (P := Tryd.prog) W 0 tS ty e i8 _ size bytes I.under hi hz0 hz1 hz2 I.zs I.pos v n xs hown ⟨b, 0, none⟩ 1 1 cs (by rw [hl, Nat.one_mul]) (fun j u hu => by
    rw [addr_add, hb.cell]; simpa using hu) h1 (by unfold maxLen; omega) h8 (Nat.zero_le _)
  obtain ⟨ao, cap, rfl, _⟩ := Rw.shape g1
  exact ⟨ao, cap, w', hr, g1, g2, g4⟩
theorem step_app1 {tS e : TypeId} {z : Value} {size bytes : Nat} (I : ElemOk tS e z size bytes) {W : World} {ops : Array Oper} {o : Oper} {a : Act} {K : Act → World → Prop} {Q : Exit → Act → World → Prop} {E : Prop} (hgd : o.guard = none) (s x : Operand)
    (ho : o.op = .call { callee := .builtin .append, args := #[s, x], argTypes := #[tS, tS] }) (v : Value) (n : Nat) (xs : List Value) (hs : a.eval s = v) (hown : Rw W e size v n xs) (b : Nat) (cs : List Value) (hx : a.eval x = .slice (some ⟨b, 0, none⟩) 1 1) (hb : Own W b cs.toArray e) (hl : cs.length = size) (h1 : ∀ u ∈ cs, u.oneCell' = true) (h63 : n ≤ 10000000)
    (h : ∀ ao cap w', Rw w' e size (.slice ao (n + 1) cap) (n + 1) (xs ++ cs) → W.grownBy w' v.ownBlock → ((Value.slice ao (n + 1) cap).ownBlock = v.ownBlock ∨ (Value.slice ao (n + 1) cap).ownBlock = some W.heap.size) → K (a.put o.dst (.slice ao (n + 1) cap)) w') :
    if Region.wanted o (yielded ops a.tmps) = true then Oper.wp Tryd.prog o a W K Q else E := by
  have hw : Region.wanted o (yielded ops a.tmps) = true := by simp [Region.wanted, hgd]
  rw [if_pos hw]
  obtain ⟨ao, cap, w', hr, g1, g2, g3⟩ := run_app1 I W o.type v n xs hown b cs hb hl h1 h63
  unfold Oper.wp execOp
  simp only [ho, resolve, invoke, builtin, Sem.run_bind, Sem.run_pure, Result.andThen_ok, List.map_toArray, List.map_cons, List.map_nil, hs, hx, hr]
  exact h ao cap w' g1 g2 g3
theorem wpList_app1 {tS e : TypeId} {z : Value} {size bytes : Nat} (I : ElemOk tS e z size bytes) {W : World} {ops : Array Oper} {rest : List Oper} {o : Oper} {a : Act} {Q : Exit → Act → World → Prop} (hgd : o.guard = none) (s x : Operand)
    (ho : o.op = .call { callee := .builtin .append, args := #[s, x], argTypes := #[tS, tS] }) (v : Value) (n : Nat) (xs : List Value) (hs : a.eval s = v) (hown : Rw W e size v n xs) (b : Nat) (cs : List Value) (hx : a.eval x = .slice (some ⟨b, 0, none⟩) 1 1) (hb : Own W b cs.toArray e) (hl : cs.length = size) (h1 : ∀ u ∈ cs, u.oneCell' = true) (h63 : n ≤ 10000000)
    (h : ∀ ao cap w', Rw w' e size (.slice ao (n + 1) cap) (n + 1) (xs ++ cs) → W.grownBy w' v.ownBlock → ((Value.slice ao (n + 1) cap).ownBlock = v.ownBlock ∨ (Value.slice ao (n + 1) cap).ownBlock = some W.heap.size) → wpList Tryd.prog ops Q rest (a.put o.dst (.slice ao (n + 1) cap)) w') :
    wpList Tryd.prog ops Q (o :: rest) a W := by
  obtain ⟨ao, cap, w', hr, g1, g2, g3⟩ := run_app1 I W o.type v n xs hown b cs hb hl h1 h63
  refine wpList_plain hgd fun K hK => ?_
  unfold Oper.wp execOp
  simp only [ho, resolve, invoke, builtin, Sem.run_bind, Sem.run_pure, Result.andThen_ok, List.map_toArray, List.map_cons, List.map_nil, hs, hx, hr]
  exact hK _ _ (h ao cap w' g1 g2 g3)
/-- append of a row that lies anywhere. -/
theorem run_appA {tS e : TypeId} {z : Value} {size bytes : Nat} (I : ElemOk tS e z size bytes) (W : World) (ty : TypeId) (v : Value) (k : Nat) (ys : List Value) (hown : Rw W e size v k ys) (ad : Addr) (n cap : Nat) (xs : List Value) (hl : xs.length = n * size) (hr : ∀ j u, xs[j]? = some u → W.cell? (ad.add j) = some u) (h1 : ∀ u ∈ xs, u.oneCell' = true) (hn : k + n ≤ 100000000000) :
    ∃ v' w', (Builtin.append_ #[tS, tS] ty #[v, .slice (some ad) n cap]).run Tryd.prog W = .ok v' w' ∧ Rw w' e size v' (k + n) (ys ++ xs) ∧ W.grownBy w' v.ownBlock ∧ (v'.ownBlock = v.ownBlock ∨ v'.ownBlock = some W.heap.size) := by
  obtain ⟨i8, hi, hz0, hz1, hz2⟩ := info_parts I.info
  have hsm := I.small
  have h8 : (k + n) * bytes ≤ 140737488355328 := Nat.le_trans (Nat.mul_le_mul_left (k + n) hsm) (by omega)
  obtain ⟨v', w', hrun, g1, g2, _, g4⟩ := run_append_own_at (P := Tryd.prog) W 0 tS ty e i8 _ size bytes I.under hi hz0 hz1 hz2 I.zs I.pos v k ys hown ad n cap xs hl hr h1 (by unfold maxLen; omega) h8 (Nat.zero_le _)
  exact ⟨v', w', hrun, g1, g2, g4⟩
theorem wpList_appA {tS e : TypeId} {z : Value} {size bytes : Nat} (I : ElemOk tS e z size bytes) {W : World} {ops : Array Oper} {rest : List Oper} {o : Oper} {a : Act} {Q : Exit → Act → World → Prop} (hgd : o.guard = none) (s x : Operand)
    (ho : o.op = .call { callee := .builtin .append, args := #[s, x], argTypes := #[tS, tS] }) (v : Value) (k : Nat) (ys : List Value) (hs : a.eval s = v) (hown : Rw W e size v k ys) (ad : Addr) (n cap : Nat) (xs : List Value) (hx : a.eval x = .slice (some ad) n cap) (hl : xs.length = n * size) (hr : ∀ j u, xs[j]? = some u → W.cell? (ad.add j) = some u) (h1 : ∀ u ∈ xs, u.oneCell' = true) (hn : k + n ≤ 100000000000)
    (h : ∀ v' w', Rw w' e size v' (k + n) (ys ++ xs) → W.grownBy w' v.ownBlock → (v'.ownBlock = v.ownBlock ∨ v'.ownBlock = some W.heap.size) → wpList Tryd.prog ops Q rest (a.put o.dst v') w') :
    wpList Tryd.prog ops Q (o :: rest) a W := by
  obtain ⟨v', w', hrun, g1, g2, g4⟩ := run_appA I W o.type v k ys hown ad n cap xs hl hr h1 hn
  refine wpList_plain hgd fun K hK => ?_
  unfold Oper.wp execOp
  simp only [ho, resolve, invoke, builtin, Sem.run_bind, Sem.run_pure, Result.andThen_ok, List.map_toArray, List.map_cons, List.map_nil, hs, hx, hrun]
  exact hK _ _ (h v' w' g1 g2 g4)

theorem okB : ElemOk 46 5 (.int .u8 0) 1 1 := ⟨Tryd.underlying46, by kernel_rfl, rfl, by omega, by omega⟩
theorem okA : ElemOk 22 44 (.agg #[.int .i64 0, .int .i64 0]) 2 16 := ⟨Tryd.underlying22, by kernel_rfl, rfl, by omega, by omega⟩
theorem okX : ElemOk 45 24 (.agg #[.int .u8 0, .int .i64 0, .int .i64 0, .slice none 0 0]) 4 48 := ⟨Tryd.underlying45, by kernel_rfl, rfl, by omega, by omega⟩
theorem okN : ElemOk 34 3 (.int .i64 0) 1 8 := ⟨Tryd.underlying34, by kernel_rfl, rfl, by omega, by omega⟩
def FnIs (fn : Nat) : Prop := ∀ (a : Array Value) (w : World), (callFunc fn a).run Tryd.prog w = .ok (.enter fn a) w
theorem ret_int {k : IntKind} {x y : Int} (h : x = y) : Ending.returned (.int k x) = .returned (.int k y) := by rw [h]
theorem ret_bool {x y : Bool} (h : x = y) : Ending.returned (.bool x) = Ending.returned (.bool y) := by rw [h]
end Go.Proofs.YtjfdlphkmpkjdaaDoor
namespace Go.Proofs.YtjfdlphkmpkjdaaDoor
open Go.RowKit
set_option linter.unusedVariables false

theorem bodyPost_cell1 {P : Program} {fn : Func} {R : Ending → World → Prop} {a : Act} {w : World} {p : Tmp} {ty : TypeId} {g : Nat} {t : TypeId} {cs : Array Value} {fr : Nat × Nat} {d : TypeDesc} (h : fn.results = #[.cell p ty])
    (hp : a.tmps.getD p undef = .pointer (some ⟨g, 0, none⟩)) (hd : a.defers = []) (hg : w.heap[g]? = some (.cells cs t fr))
    (hu : P.underlying ty = some d) (hd2 : (match d with | .struct _ | .array _ _ => true | _ => false) = true) (hi : (P.info? ty).map (·.size) = some cs.size)
    (hR : R (.returned (.agg cs)) w) : bodyPost P fn R .ret a w := by
  refine bodyPost_ret ?_ hd hR
  have hp' : a.tmps[p]?.getD undef = .pointer (some ⟨g, 0, none⟩) := by simpa using hp
  simp [results, h, hp', asAddr, run_loadVar_row w g t ty cs fr d hg hu hd2 hi]
theorem bodyPost_cell2 {P : Program} {fn : Func} {R : Ending → World → Prop} {a : Act} {w : World} {p u : Tmp} {ty : TypeId} {g : Nat} {t : TypeId} {cs : Array Value} {fr : Nat × Nat} {d : TypeDesc} (h : fn.results = #[.cell p ty, .tmp u])
    (hp : a.tmps.getD p undef = .pointer (some ⟨g, 0, none⟩)) (hd : a.defers = []) (hg : w.heap[g]? = some (.cells cs t fr))
    (hu : P.underlying ty = some d) (hd2 : (match d with | .struct _ | .array _ _ => true | _ => false) = true) (hi : (P.info? ty).map (·.size) = some cs.size)
    (hR : R (.returned (.tuple #[.agg cs, a.tmps.getD u undef])) w) : bodyPost P fn R .ret a w := by
  refine bodyPost_ret ?_ hd hR
  have hp' : a.tmps[p]?.getD undef = .pointer (some ⟨g, 0, none⟩) := by simpa using hp
  simp [results, h, hp', asAddr, run_loadVar_row w g t ty cs fr d hg hu hd2 hi]
theorem bodyPost_cell3 {P : Program} {fn : Func} {R : Ending → World → Prop} {a : Act} {w : World} {p u v : Tmp} {ty : TypeId} {g : Nat} {t : TypeId} {cs : Array Value} {fr : Nat × Nat} {d : TypeDesc} (h : fn.results = #[.cell p ty, .tmp u, .tmp v])
    (hp : a.tmps.getD p undef = .pointer (some ⟨g, 0, none⟩)) (hd : a.defers = []) (hg : w.heap[g]? = some (.cells cs t fr))
    (hu : P.underlying ty = some d) (hd2 : (match d with | .struct _ | .array _ _ => true | _ => false) = true) (hi : (P.info? ty).map (·.size) = some cs.size)
    (hR : R (.returned (.tuple #[.agg cs, a.tmps.getD u undef, a.tmps.getD v undef])) w) : bodyPost P fn R .ret a w := by
  refine bodyPost_ret ?_ hd hR
  have hp' : a.tmps[p]?.getD undef = .pointer (some ⟨g, 0, none⟩) := by simpa using hp
  simp [results, h, hp', asAddr, run_loadVar_row w g t ty cs fr d hg hu hd2 hi]
@[go_sem] theorem run_store_nofunc {P : Program} {w : World} {a : Addr} {m : Mode} : (store a .nilFunc m).run P w = stored P w a .nilFunc m := run_store P w a _ m rfl
@[go_sem] theorem run_store_func {P : Program} {w : World} {a : Addr} {m : Mode} (f : Fn) (x y : Array Value) : (store a (.func f x y) m).run P w = stored P w a (.func f x y) m := run_store P w a _ m rfl
theorem new_below (w : World) (o : Obj) : Below w.heap.size w (w.alloc o) := (Below.refl _ _).alloc (Nat.le_refl _) o
/-- A struct that is written whole, or into a part of a block: as one step. -/
theorem wpList_put {W : World} {ops : Array Oper} {rest : List Oper} {o : Oper} {a : Act} {Q : Exit → Act → World → Prop} (hgd : o.guard = none) (ty : TypeId) (x y : Operand) (ho : o.op = .store ty x y) (hdst : o.dst = none) (g off : Nat) (hx : a.eval x = .pointer (some ⟨g, off, none⟩))
    {bs : Array Value} (hy : a.eval y = .agg bs) {cur : Array Value} {t : TypeId} (hown : Own W g cur t) (hi : (Tryd.prog.info? ty).map (·.size) = some bs.size) (h1 : bs.toList.all (·.oneCell') = true) (hsz : off + bs.size ≤ cur.size) {cur' : Array Value} (hc : (cur.toList.take off ++ bs.toList ++ cur.toList.drop (off + bs.size)).toArray = cur')
    (h : ∀ w', Own w' g cur' t → W.grownBy w' (some g) → wpList Tryd.prog ops Q rest a w') : wpList Tryd.prog ops Q (o :: rest) a W := by
  have hr := run_storeCells_at (P := Tryd.prog) g off t bs.toList 0 cur W hown (by simpa using hsz) (fun v hv => List.all_eq_true.1 h1 v hv)
  have hs : (storeVar ty ⟨g, off, none⟩ (.agg bs)).run Tryd.prog W = .ok () (W.setRow g cur') := by
    cases hq : Tryd.prog.info? ty with
    | none => simp [hq] at hi
    | some i =>
      have hsi : bs.size = i.size := by simp [hq] at hi; omega
      simp only [Nat.add_zero, Array.length_toList] at hr
      rw [hc] at hr
      simp [storeVar, sizeOf, typeInfo, hq, Value.cells, hsi, hr]
  have hown' : Own (W.setRow g cur') g cur' t := setRow_heap W g cur cur' t (0, 0) hown
  have hg : W.grownBy (W.setRow g cur') (some g) := ⟨rfl, rfl, rfl, by simp [World.setRow], fun k _ hk => setRow_other W g k cur' (fun e => hk (by rw [e]))⟩
  refine wpList_plain hgd fun K hK => ?_
  unfold Oper.wp execOp
  simp only [ho, hx, hy, Instr.storeAt, Instr.sureAddr, Sem.run_bind, Sem.run_pure, Result.andThen_ok, hs, Oper.upon]
  refine hK _ _ ?_
  rw [hdst]
  exact h _ hown' hg
theorem Own.put {w w' : World} {g g' : Nat} {cs : Array Value} {t : TypeId} (h : Own w g cs t) (hg : w.grownBy w' (some g')) (hne : g ≠ g') : Own w' g cs t := h.grown hg (fun e => hne (Option.some.inj e))
theorem below_put {w w' : World} {B g : Nat} (hg : w.grownBy w' (some g)) (hb : B ≤ w.heap.size) (h : B ≤ g) : Below B w w' := (Below.refl _ _).grown hg hb (fun k e => by cases e; exact h)
theorem info8 : (Tryd.prog.info? 5).map (fun i => (i.zero, i.size, i.bytes)) = some (some (.int .u8 0), 1, 1) := by kernel_rfl
def nums (xs : List Nat) : List Value := xs.map fun (c : Nat) => Value.int .u8 (c : Int)
theorem nums_length (xs : List Nat) : (nums xs).length = xs.length := by simp [nums]
def Lies (w : World) (a : Option Addr) (xs : List Nat) : Prop :=
  (∀ c ∈ xs, c < 256) ∧ xs.length ≤ 9223372036854775807 ∧ (xs = [] ∨ ∃ b off, a = some ⟨b, off, none⟩ ∧ ∀ i, i < xs.length → w.cell? ⟨b, off + i, none⟩ = some (.int .u8 ((xs.getD i 0 : Nat) : Int)))
theorem Lies.fr {w w' : World} {a : Option Addr} {xs : List Nat} {F : Nat → Prop} (h : Lies w a xs) (hf : Fr F w w') (ha : ∀ b off, a = some ⟨b, off, none⟩ → ¬ F b) : Lies w' a xs := by
  refine ⟨h.1, h.2.1, ?_⟩
  rcases h.2.2 with h0 | ⟨b, off, rfl, hc⟩
  · exact .inl h0
  · refine .inr ⟨b, off, rfl, fun i hi => ?_⟩
    have h1 := hc i hi
    have hlt := World.block_lt_of_cell? w _ h1
    have hb := hf.block b hlt (ha b off rfl)
    rw [← h1]
    unfold World.cell?
    simp only [hb]
theorem Lies.below {w w' : World} {a : Option Addr} {xs : List Nat} (h : Lies w a xs) (hb : Below w.heap.size w w') : Lies w' a xs := h.fr (F := fun _ => False) (Fr.of hb) (fun _ _ _ q => q)
theorem Lies.alloc {w : World} {a : Option Addr} {xs : List Nat} (h : Lies w a xs) (o : Obj) : Lies (w.alloc o) a xs := h.below (new_below w o)
theorem below_drawn {B : Nat} {w w1 : World} (h : Below B w w1) (n : Nat) : Below B w (w1.drewN n) := ⟨h.os, h.tape, h.output, h.size, h.block⟩
theorem below_fr {w X Y : World} {F : Nat → Prop} (h : Below w.heap.size w X) (k : Fr F X Y) (hF : ∀ g, F g → w.heap.size ≤ g) : Below w.heap.size w Y :=
  ⟨k.os.trans h.os, k.tape.trans h.tape, k.output.trans h.output, Nat.le_trans h.size k.size, fun g hg => (k.block g (Nat.lt_of_lt_of_le hg h.size) (fun q => by have := hF g q; omega)).trans (h.block g hg)⟩
theorem own_put4 {w : World} {g : Nat} {t : TypeId} {a0 a1 a2 a3 : Value} (h : Own w g #[a0, a1, a2, a3] t) (b0 b1 b2 b3 : Value) : Own ((((w.setCell ⟨g, 0, none⟩ b0).setCell ⟨g, 1, none⟩ b1).setCell ⟨g, 2, none⟩ b2).setCell ⟨g, 3, none⟩ b3).drew g #[b0, b1, b2, b3] t := by
  have := ((((h.set 0 b0).set 1 b1).set 2 b2).set 3 b3).drew
  simpa using this
theorem fr_put4 (w : World) (g : Nat) (b0 b1 b2 b3 : Value) : Fr (fun k => k = g) w ((((w.setCell ⟨g, 0, none⟩ b0).setCell ⟨g, 1, none⟩ b1).setCell ⟨g, 2, none⟩ b2).setCell ⟨g, 3, none⟩ b3).drew :=
  (((((Fr.refl (fun k => k = g) w).set (g := g) (.inr rfl) 0 _).set (g := g) (.inr rfl) 1 _).set (g := g) (.inr rfl) 2 _).set (g := g) (.inr rfl) 3 _).drew
theorem nums_append (xs ys : List Nat) : nums (xs ++ ys) = nums xs ++ nums ys := by simp [nums]
theorem nums_get (xs : List Nat) (i : Nat) (h : i < xs.length) : (nums xs)[i]? = some (.int .u8 ((xs.getD i 0 : Nat) : Int)) := by simp [nums, List.getD, h]
theorem nums_one (xs : List Nat) : ∀ u ∈ nums xs, u.oneCell' = true := by
  intro u hu
  simp only [nums, List.mem_map] at hu
  obtain ⟨c, _, rfl⟩ := hu
  rfl
/-- append of bytes that lie anywhere (or of none). -/
theorem run_appL (W : World) (ty : TypeId) (v : Value) (xs : List Nat) (hown : Rw W 5 1 v xs.length (nums xs)) (ao : Option Addr) (m c : Nat) (ys : List Nat) (hl : Lies W ao ys) (hm : m = ys.length) (hno : ao = none → c = 0) (hn : xs.length + m ≤ 100000000000) :
    ∃ ao' n' c' w', (Builtin.append_ #[46, 46] ty #[v, .slice ao m c]).run Tryd.prog W = .ok (.slice ao' n' c') w' ∧ n' = (xs ++ ys).length ∧ Rw w' 5 1 (.slice ao' n' c') (xs ++ ys).length (nums (xs ++ ys)) ∧ W.grownBy w' v.ownBlock ∧ ((Value.slice ao' n' c').ownBlock = v.ownBlock ∨ (Value.slice ao' n' c').ownBlock = some W.heap.size) := by
  cases ao with
  | none =>
    have hm0 : m = 0 := by
      rcases hl.2.2 with h0 | ⟨b, off, h0, _⟩
      · rw [hm, h0]; rfl
      · exact (Option.some_ne_none _ h0.symm).elim
    have hc0 := hno rfl
    subst hm0; subst hc0
    have hy : ys = [] := List.eq_nil_of_length_eq_zero hm.symm
    subst hy
    obtain ⟨ao, cp, rfl, h1, h2⟩ := hown.shape
    have hr : (Builtin.append_ #[46, 46] ty #[.slice ao xs.length cp, .slice none 0 0]).run Tryd.prog W = .ok (.slice ao xs.length cp) W := by
      obtain ⟨i8, hi, hz0, hz1, hz2⟩ := info_parts info8
      exact run_append_owned_none (P := Tryd.prog) (w := W) 0 46 ty 5 i8 1 Tryd.underlying46 hi _ _ _ hown
    refine ⟨ao, xs.length, cp, W, hr, by simp, ?_, World.grownBy.refl _ _, .inl rfl⟩
    simpa using hown
  | some ad =>
    have hcell : ∀ j u, (nums ys)[j]? = some u → W.cell? (ad.add j) = some u := by
      intro j u hu
      rcases hl.2.2 with h0 | ⟨b, off, h0, hc⟩
      · rw [h0] at hu; simp [nums] at hu
      · cases h0
        have hj : j < ys.length := by
          by_cases hj : j < ys.length
          · exact hj
          · rw [List.getElem?_eq_none (by rw [nums_length]; omega)] at hu; cases hu
        rw [nums_get ys j hj] at hu
        rw [← hu, ← hc j hj]
        congr 1
        unfold Addr.add; split <;> simp_all
    obtain ⟨v', w', hr, g1, g2, g3⟩ := run_appA okB W ty v xs.length (nums xs) hown ad m c (nums ys) (by rw [nums_length]; omega) hcell (nums_one ys) hn
    rw [← nums_append] at g1
    obtain ⟨ao', c', rfl, -⟩ := g1.shape
    have e : (xs ++ ys).length = xs.length + m := by rw [List.length_append, hm]
    exact ⟨ao', _, c', w', hr, e.symm, by rw [e]; exact g1, g2, g3⟩
theorem wpList_appL {W : World} {ops : Array Oper} {rest : List Oper} {o : Oper} {a : Act} {Q : Exit → Act → World → Prop} (hgd : o.guard = none) (s x : Operand)
    (ho : o.op = .call { callee := .builtin .append, args := #[s, x], argTypes := #[46, 46] }) (v : Value) (xs : List Nat) (hs : a.eval s = v) (hown : Rw W 5 1 v xs.length (nums xs)) (ao : Option Addr) (m c : Nat) (ys : List Nat) (hx : a.eval x = .slice ao m c) (hl : Lies W ao ys) (hm : m = ys.length) (hno : ao = none → c = 0) (hn : xs.length + m ≤ 100000000000)
    (h : ∀ ao' n' c' w', n' = (xs ++ ys).length → Rw w' 5 1 (.slice ao' n' c') (xs ++ ys).length (nums (xs ++ ys)) → W.grownBy w' v.ownBlock → ((Value.slice ao' n' c').ownBlock = v.ownBlock ∨ (Value.slice ao' n' c').ownBlock = some W.heap.size) → wpList Tryd.prog ops Q rest (a.put o.dst (.slice ao' n' c')) w') :
    wpList Tryd.prog ops Q (o :: rest) a W := by
  obtain ⟨ao', n', c', w', hrun, g0, g1, g2, g4⟩ := run_appL W o.type v xs hown ao m c ys hl hm hno hn
  refine wpList_plain hgd fun K hK => ?_
  unfold Oper.wp execOp
  simp only [ho, resolve, invoke, builtin, Sem.run_bind, Sem.run_pure, Result.andThen_ok, List.map_toArray, List.map_cons, List.map_nil, hs, hx, hrun]
  exact hK _ _ (h ao' n' c' w' g0 g1 g2 g4)
theorem lies_row {w : World} {B g n cap : Nat} {xs : List Nat} (hn : n = xs.length) (h : w.ownsRow B 5 1 (.slice (some ⟨g, 0, none⟩) n cap) n (nums xs)) (hb : ∀ c ∈ xs, c < 256) (hm : xs.length ≤ 9223372036854775807) : Lies w (some ⟨g, 0, none⟩) xs := by
  subst hn
  refine ⟨hb, hm, .inr ⟨g, 0, rfl, fun i hi => ?_⟩⟩
  rw [Nat.zero_add, h.cellAt i (by omega), nums_get xs i hi]
def strN (xs : List Nat) : ByteArray := strOfNums (xs.map fun (c : Nat) => (c : Int))
theorem conv_any {w : World} {a : Option Addr} {L cap : Nat} {xs : List Nat} (hl : Lies w a xs) (hL : L = xs.length) :
    (convert 46 9 (.slice a L cap)).run Tryd.prog w = .ok (.string (strN xs)) w := by
  obtain ⟨_, _, h3⟩ := hl
  subst hL
  rcases h3 with rfl | ⟨b, off, rfl, hc⟩
  · cases a with
    | none => exact run_convert_bytes_nil w 46 5 Tryd.underlying46 Tryd.underlying5 0 cap 9 Tryd.underlying9
    | some x =>
      show (convert 46 9 (.slice (some x) 0 cap)).run Tryd.prog w = _
      rw [run_convert_bytes_string w 46 9 5 (some x) 0 cap Tryd.underlying46 Tryd.underlying5 Tryd.underlying9]
      exact run_bytesToString w x 0 cap [] (by simp [loadCells, loadCellsFrom])
  · exact run_convert_bytes_arg w 46 5 Tryd.underlying46 Tryd.underlying5 b off _ cap (xs.map fun (c : Nat) => (c : Int)) (by simp) (fun i hi => by rw [hc i hi]; simp [List.getD, hi]) 9 Tryd.underlying9
def After (w2 : World) : Type := { w' : World // Below w2.heap.size w2 w' }
theorem after_of {w2 w' : World} (h : Below w2.heap.size w2 w') : ∃ t : After w2, w' = t.1 := ⟨⟨w', h⟩, rfl⟩
theorem quiet_new {w2 : World} {f : FuncId} {args : Array Value} {v : Value} (t : After w2) (h : Calls Tryd.prog f args t.1 fun e w' => e = .returned v ∧ Below t.1.heap.size t.1 w') :
    Calls Tryd.prog f args t.1 fun e w'' => e = .returned v ∧ ∃ t' : After w2, w'' = t'.1 :=
  h.mono fun _ w' ⟨he, hb⟩ => ⟨he, ⟨w', t.2.trans (hb.mono t.2.size)⟩, rfl⟩
theorem wp_region_after {id : Nat} {Q : Exit → Act → World → Prop} {a : Act} {w : World} {l : List Oper} (hm : Tryd.prog.follows .mixedOrders = true) (hB : Region.lexB .any l.toArray = true)
    (h : wpQuiet Tryd.prog l.toArray (fun w' => ∃ t : After w, w' = t.1) (fun a' => ∀ w', (∃ t : After w, w' = t.1) → Q .normal a' w') l a) : (Code.region id l.toArray true).wp Tryd.prog Q a w :=
  wp_region_quiet (C := fun w' => ∃ t : After w, w' = t.1) hm hB (after_of ⟨rfl, rfl, rfl, Nat.le_refl _, fun _ _ => rfl⟩) (by simpa using h)
theorem Lies.part {w : World} {b off : Nat} {xs : List Nat} (h : Lies w (some ⟨b, off, none⟩) xs) (p n : Nat) (hp : p + n ≤ xs.length) : Lies w (some ⟨b, off + p, none⟩) ((xs.drop p).take n) := by
  have hlen : ((xs.drop p).take n).length = n := by rw [List.length_take, List.length_drop]; omega
  refine ⟨fun c hc => h.1 c (List.mem_of_mem_drop (List.mem_of_mem_take hc)), by have := h.2.1; omega, ?_⟩
  rcases h.2.2 with h0 | ⟨b', off', e, hc⟩
  · subst h0; exact .inl (by simp)
  · cases e
    refine .inr ⟨b, off + p, rfl, fun i hi => ?_⟩
    rw [hlen] at hi
    have := hc (p + i) (by omega)
    rw [show off + p + i = off + (p + i) by omega, this]
    congr 3
    simp only [List.getD, List.getElem?_take, List.getElem?_drop, if_pos hi]
theorem row_lies {w : World} {v : Value} {xs : List Nat} (h : Rw w 5 1 v xs.length (nums xs)) (hb : ∀ c ∈ xs, c < 256) (hm : xs.length ≤ 9223372036854775807) : ∃ ao cp, v = .slice ao xs.length cp ∧ Lies w ao xs := by
  obtain ⟨ao, cp, rfl, -⟩ := h.shape
  refine ⟨ao, cp, rfl, hb, hm, ?_⟩
  by_cases h0 : xs = []
  · exact .inl h0
  · obtain ⟨g, cap, cur, e, ho, -⟩ := h.block (List.length_pos_iff.2 h0)
    cases e
    refine .inr ⟨g, 0, rfl, fun i hi => ?_⟩
    rw [Nat.zero_add]
    exact h.cells i _ (nums_get xs i hi)
theorem strN_eq {a b : List Nat} (h : a = b) : strN a = strN b := by rw [h]
theorem cells4 {w : World} {g : Nat} {a0 a1 a2 a3 : Value} {t : TypeId} (h : Own w g #[a0, a1, a2, a3] t) : (∀ t : After w, t.1.cell? ⟨g, 0, none⟩ = some a0) ∧ (∀ t : After w, t.1.cell? ⟨g, 1, none⟩ = some a1) ∧ (∀ t : After w, t.1.cell? ⟨g, 2, none⟩ = some a2) ∧ (∀ t : After w, t.1.cell? ⟨g, 3, none⟩ = some a3) :=
  ⟨fun t => (h.below t.2).cell 0, fun t => (h.below t.2).cell 1, fun t => (h.below t.2).cell 2, fun t => (h.below t.2).cell 3⟩
theorem cells8 {w : World} {g : Nat} {a0 a1 a2 a3 a4 a5 a6 a7 : Value} {t : TypeId} (h : Own w g #[a0, a1, a2, a3, a4, a5, a6, a7] t) : (∀ t : After w, t.1.cell? ⟨g, 0, none⟩ = some a0) ∧ (∀ t : After w, t.1.cell? ⟨g, 1, none⟩ = some a1) ∧ (∀ t : After w, t.1.cell? ⟨g, 2, none⟩ = some a2) ∧ (∀ t : After w, t.1.cell? ⟨g, 3, none⟩ = some a3) ∧ (∀ t : After w, t.1.cell? ⟨g, 4, none⟩ = some a4) ∧ (∀ t : After w, t.1.cell? ⟨g, 5, none⟩ = some a5) ∧ (∀ t : After w, t.1.cell? ⟨g, 6, none⟩ = some a6) ∧ (∀ t : After w, t.1.cell? ⟨g, 7, none⟩ = some a7) :=
  ⟨fun t => (h.below t.2).cell 0, fun t => (h.below t.2).cell 1, fun t => (h.below t.2).cell 2, fun t => (h.below t.2).cell 3, fun t => (h.below t.2).cell 4, fun t => (h.below t.2).cell 5, fun t => (h.below t.2).cell 6, fun t => (h.below t.2).cell 7⟩
theorem Rw.belowR {w w' : World} {e : TypeId} {size : Nat} {v : Value} {n : Nat} {xs : List Value} (h : Rw w e size v n xs) (hb : Below w.heap.size w w') : Rw w' e size v n xs := h.on fun k q => hb.block k (h.lt q)
theorem grown_tr {w w1 w2 : World} {r : Option Nat} (h1 : w.grownBy w1 r) (h2 : w1.grownBy w2 r) : w.grownBy w2 r :=
  ⟨h2.os.trans h1.os, h2.tape.trans h1.tape, h2.output.trans h1.output, Nat.le_trans h1.size h2.size, fun k hk hr => (h2.block k (Nat.lt_of_lt_of_le hk h1.size) hr).trans (h1.block k hk hr)⟩
/-- A row, whatever is written into a cell. -/
theorem Rw.anyset {w : World} {e : TypeId} {size : Nat} {v : Value} {n : Nat} {zs : List Value} (h : Rw w e size v n zs) (g j : Nat) (u : Value) : ∃ zs', Rw (w.setCell ⟨g, j, none⟩ u) e size v n zs' := by
  by_cases hv : v.ownBlock = some g
  · obtain ⟨ao, cp, rfl, -⟩ := h.shape
    cases ao with
    | none => simp [Value.ownBlock] at hv
    | some ad =>
      have h2 := h
      rcases h2.2 with ⟨h', _⟩ | ⟨g', cap', cur, h', -⟩
      · cases h'
      · cases h'
        have : g' = g := by simpa [Value.ownBlock] using hv
        subst this
        exact ⟨_, (World.ownsRow.stored h j u).1⟩
  · exact ⟨_, h.set hv j u⟩
/-- Numbers that lie where a slice begins. -/
def IntLies (w : World) (a : Option Addr) (xs : List Int) : Prop := xs = [] ∨ ∃ b off, a = some ⟨b, off, none⟩ ∧ ∀ i, i < xs.length → w.cell? ⟨b, off + i, none⟩ = some (.int .i64 (xs.getD i 0))
theorem rw_intLies {w : World} {v : Value} {n : Nat} {xs : List Int} (hn : n = xs.length) (h : Rw w 3 1 v n (xs.map fun x => Value.int .i64 x)) : ∃ ao cp, v = .slice ao n cp ∧ IntLies w ao xs := by
  subst hn
  obtain ⟨ao, cp, rfl, -⟩ := h.shape
  refine ⟨ao, cp, rfl, ?_⟩
  by_cases h0 : xs = []
  · exact .inl h0
  · obtain ⟨g, cap, cur, e, ho, -⟩ := h.block (List.length_pos_iff.2 h0)
    cases e
    refine .inr ⟨g, 0, rfl, fun i hi => ?_⟩
    rw [Nat.zero_add]
    exact h.cells i _ (by simp [List.getD, hi])
set_option maxHeartbeats 1000000 in
set_option maxRecDepth 100000 in
theorem sameInts_eq {w : World} {a a' : Option Addr} {n c c' : Nat} {xs : List Int} (hn : n = xs.length) (h : IntLies w a xs) (h' : IntLies w a' xs) (hm : n ≤ 9223372036854775807) :
    Calls Tryd.prog 11 #[.slice a n c, .slice a' n c'] w fun e w' => e = .returned (.bool true) ∧ ∃ q, w' = w.drewN q := by
  have HN : Hid (n = xs.length) := hn
  have H1 : Hid (IntLies w a xs) := h
  have H2 : Hid (IntLies w a' xs) := h'
  clear hn h h'
  go_enter Tryd.func11, Tryd.ntmps11
  go_wp2_with fail
  go_loopw [5] (fun i wr => ∃ k q : Nat, k ≤ n ∧ i = .int .i64 (k : Int) ∧ wr = w.drewN q) (fun i _ => n - (intOf i).toNat)
  case atStart => exact ⟨0, 0, Nat.zero_le _, rfl, rfl⟩
  case round =>
    obtain ⟨k, q, hk, rfl, rfl⟩ := hrel
    by_cases hlt : k < n
    · have hkx : k < xs.length := by rw [← HN.out]; exact hlt
      rcases H1.out with h0 | ⟨b, off, rfl, hc⟩
      · rw [h0] at hkx; cases hkx
      rcases H2.out with h0 | ⟨b', off', rfl, hc'⟩
      · rw [h0] at hkx; cases hkx
      have d1 := hc k hkx
      have d2 := hc' k hkx
      generalize xs.getD k 0 = V at *
      clear hc hc'
      have hlt2 : (k : Int) < (n : Int) := by omega
      have hk0 : (0 : Int) ≤ (k : Int) := by omega
      go_wp2_with fail
      go_quiet (fail)
      go_wp2
      go_roundw
      case rel => exact ⟨k + 1, _, hlt, by go_num, rfl⟩
      case measure => simp [intOf]; omega
    · go_wp2
      go_ret
      exact ⟨rfl, q, rfl⟩
theorem intLies_below {w w' : World} {a : Option Addr} {xs : List Int} (h : IntLies w a xs) (hb : Below w.heap.size w w') : IntLies w' a xs := by
  rcases h with h0 | ⟨b, off, rfl, hc⟩
  · exact .inl h0
  · refine .inr ⟨b, off, rfl, fun i hi => ?_⟩
    have h1 := hc i hi
    exact (hb.cell (p := ⟨b, _, none⟩) (World.block_lt_of_cell? w _ h1)).trans h1
/-- Bytes that are lent: a row that holds them, and the mark 77 behind. -/
def LentB (w : World) (g n c : Nat) (xs : List Nat) : Prop := Rw w 5 1 (.slice (some ⟨g, 0, none⟩) (n + 1) c) (n + 1) (nums (xs ++ [77]))
theorem LentB.below {w w' : World} {g n c : Nat} {xs : List Nat} (h : LentB w g n c xs) (hb : Below w.heap.size w w') : LentB w' g n c xs := Rw.on h fun k e => hb.block k (Rw.lt h e)
theorem LentB.lies {w : World} {g n c : Nat} {xs : List Nat} (h : LentB w g n c xs) (hn : n = xs.length) (hb : ∀ c ∈ xs, c < 256) (hm : xs.length ≤ 9223372036854775807) : Lies w (some ⟨g, 0, none⟩) xs := by
  refine ⟨hb, hm, .inr ⟨g, 0, rfl, fun i hi => ?_⟩⟩
  have q := nums_get (xs ++ [77]) i (by simp; omega)
  have e : (xs ++ [77]).getD i 0 = xs.getD i 0 := by simp [List.getD, List.getElem?_append, hi]
  rw [e] at q
  rw [Nat.zero_add]; exact Rw.cells h _ _ q
theorem LentB.mark {w : World} {g n c : Nat} {xs : List Nat} (h : LentB w g n c xs) (hn : n = xs.length) : w.cell? ⟨g, n, none⟩ = some (.int .u8 77) := by
  have q := nums_get (xs ++ [77]) n (by simp; omega)
  have e : (xs ++ [77]).getD n 0 = 77 := by rw [hn]; simp [List.getD]
  rw [e] at q
  exact Rw.cells h _ _ q
set_option maxHeartbeats 1000000 in
theorem kkeptB_as {w : World} {g n c : Nat} {xs : List Nat} {a : Option Addr} {c' : Nat} (h : LentB w g n c xs) (hl : Lies w a xs) (hn : n = xs.length) (hm : n ≤ 1000000) :
    Calls Tryd.prog 30 #[.slice (some ⟨g, 0, none⟩) n c, .slice a n c'] w fun e w' => e = .returned (.bool true) ∧ w = w' := by
  have c1 := conv_any (cap := c) (h.lies hn hl.1 hl.2.1) hn
  have c2 := conv_any (cap := c') hl hn
  have hcap : n + 1 ≤ c := by
    obtain ⟨a', c', e, h1, h2⟩ := Rw.shape h
    cases e; exact h1
  have hcell := h.mark hn
  generalize strN xs = SE at *
  clear h hl hn
  go_enter Tryd.func30, Tryd.ntmps30
  go_wp2
  go_ret
  exact ⟨rfl, rfl⟩
set_option maxHeartbeats 1000000 in
set_option maxRecDepth 100000 in
theorem klentB_as {w : World} {a : Option Addr} {n c : Nat} {xs : List Nat} (hl : Lies w a xs) (hn : n = xs.length) (hno : a = none → c = 0) (hm : n ≤ 1000000) :
    Calls Tryd.prog 22 #[.slice a n c] w fun e w' => ∃ g c', e = .returned (.slice (some ⟨g, 0, none⟩) n c') ∧ LentB w' g n c' xs ∧ w.heap.size ≤ g ∧ Below w.heap.size w w' := by
  have HL : Hid (Lies w a xs) := hl
  have HN : Hid (n = xs.length) := hn
  have HNO : Hid (a = none → c = 0) := hno
  have R0 : Rw w 5 1 (.slice none 0 0) ([] : List Nat).length (nums []) := ⟨rfl, .inl ⟨rfl, rfl⟩⟩
  have HF : Hid (∀ (a1 : Option Addr) (c1 : Nat) (w1 : World), Rw w1 5 1 (.slice a1 n c1) ([] ++ xs).length (nums ([] ++ xs)) → w.grownBy w1 (Value.slice none 0 0).ownBlock → ((Value.slice a1 n c1).ownBlock = (Value.slice none 0 0).ownBlock ∨ (Value.slice a1 n c1).ownBlock = some w.heap.size) → Rw w1 5 1 (.slice a1 n c1) n (nums xs) ∧ Below w.heap.size w w1 ∧ (∀ b, (Value.slice a1 n c1).ownBlock = some b → w.heap.size ≤ b)) := by
    intro a1 c1 w1 h1 h2 h3
    rw [List.nil_append, ← hn] at h1
    refine ⟨h1, (Below.refl _ _).grown h2 (Nat.le_refl _) (fun k e => by cases e), fun b q => ?_⟩
    rcases h3 with e | e
    · rw [e] at q; cases q
    · rw [e] at q; cases q; exact Nat.le_refl _
  clear hl hn hno
  go_enter Tryd.func22, Tryd.ntmps22
  go_upto_region 3 with (refine wpList_appL (by rfl) (.tmp 4) (.tmp 5) (by rfl) _ [] (by rfl) R0 a n c xs (by rfl) HL.out HN.out HNO.out (by simp; omega) ?_; intro a1 n1 c1 w1 e1 q1 q2 q3; obtain rfl : n1 = n := (by rw [e1, HN.out]; rfl); obtain ⟨r1, b1, m1⟩ := HF.out a1 c1 w1 q1 q2 q3; clear q1 q2 q3 e1 HF R0 HL)
  have oM := Own.new w1 #[.int .u8 77] 5
  have rM := r1.alloc (.cells #[.int .u8 77] 5)
  have HG : Hid (∀ (a2 : Option Addr) (c2 : Nat) (w2 : World), Rw w2 5 1 (.slice a2 (n1 + 1) c2) (n1 + 1) (nums xs ++ [.int .u8 77]) → (w1.alloc (.cells #[.int .u8 77] 5)).grownBy w2 (Value.slice a1 n1 c1).ownBlock → ((Value.slice a2 (n1 + 1) c2).ownBlock = (Value.slice a1 n1 c1).ownBlock ∨ (Value.slice a2 (n1 + 1) c2).ownBlock = some (w1.alloc (.cells #[.int .u8 77] 5)).heap.size) → ∃ g, a2 = some ⟨g, 0, none⟩ ∧ n1 + 1 ≤ c2 ∧ LentB w2 g n1 c2 xs ∧ w.heap.size ≤ g ∧ Below w.heap.size w w2) := by
    intro a2 c2 w2 h1 h2 h3
    obtain ⟨g, cap, cur, e, -, hcap, -⟩ := h1.block (by omega)
    cases e
    have e2 : nums (xs ++ [77]) = nums xs ++ [.int .u8 77] := by rw [nums_append]; rfl
    refine ⟨g, rfl, hcap, by unfold LentB; rw [e2]; exact h1, ?_, (b1.alloc b1.size _).grown h2 (Nat.le_trans b1.size (by simp)) (fun k e => m1 k e)⟩
    rcases h3 with e | e
    · exact m1 g e.symm
    · have hs := b1.size
      simp [Value.ownBlock] at e
      omega
  clear r1 b1 m1
  go_upto_region 4 with (refine wpList_app1 okB (by rfl) (.tmp 7) (.tmp 8) (by rfl) _ n1 (nums xs) (by rfl) rM w1.heap.size [.int .u8 77] (by rfl) oM rfl (by simp [Value.oneCell']) (by omega) ?_; intro a2 c2 w2 q1 q2 q3; obtain ⟨g, ea, hc2, hL2, hg2, hb2⟩ := HG.out a2 c2 w2 q1 q2 (by simpa using q3); clear q1 q2 q3 HG rM oM)
  subst ea
  have e1 : (n1 : Int) ≤ (c2 : Int) := by omega
  have e2 : n1 ≤ c2 := by omega
  have e3 : ¬ c2 = 0 := by omega
  go_wp2
  go_ret
  exact ⟨g, c2, rfl, hL2, hg2, hb2⟩
end Go.Proofs.YtjfdlphkmpkjdaaDoor
namespace Go.Proofs.YtjfdlphkmpkjdaaDoor
open Go.RowKit
set_option linter.unusedVariables false

structure Fl where
  name : ByteArray
  typ : Int
structure Ty where
  kind : Nat
  name : ByteArray
  fields : List Fl
  elem : Int
  len : Int
structure Ro where
  name : ByteArray
  params : List Int
  results : List Int
  locals : Int
  stack : Int
  code : List Nat
structure Mo where
  types : List Ty
  texts : List ByteArray
  funcs : List Ro
def zFl : Fl := ⟨⟨#[]⟩, 0⟩
def zTy : Ty := ⟨0, ⟨#[]⟩, [], 0, 0⟩
def zRo : Ro := ⟨⟨#[]⟩, [], [], 0, 0, []⟩
/-- A type and a function with where their lists lie. -/
structure TyP where
  t : Ty
  fa : Option Addr
  fc : Nat
structure RoP where
  r : Ro
  pa : Option Addr
  pc : Nat
  ra : Option Addr
  rc : Nat
  ca : Option Addr
  cc : Nat
def zTP : TyP := ⟨zTy, none, 0⟩
def zRP : RoP := ⟨zRo, none, 0, none, 0, none, 0⟩
/-- Things of sz cells each, from where a slice begins. -/
def RowAt (w : World) (a : Option Addr) (sz n : Nat) (f : Nat → Nat → Value) : Prop := n = 0 ∨ ∃ b off, a = some ⟨b, off, none⟩ ∧ ∀ i, i < n → ∀ d, d < sz → w.cell? ⟨b, off + i * sz + d, none⟩ = some (f i d)
theorem RowAt.below {w w' : World} {a : Option Addr} {sz n : Nat} {f : Nat → Nat → Value} (h : RowAt w a sz n f) (hb : Below w.heap.size w w') : RowAt w' a sz n f := by
  rcases h with h0 | ⟨b, off, rfl, hc⟩
  · exact .inl h0
  · refine .inr ⟨b, off, rfl, fun i hi d hd => ?_⟩
    have h1 := hc i hi d hd
    exact (hb.cell (p := ⟨b, _, none⟩) (World.block_lt_of_cell? w _ h1)).trans h1
theorem RowAt.at {w : World} {a : Option Addr} {sz n : Nat} {f : Nat → Nat → Value} (h : RowAt w a sz n f) {i : Nat} (hi : i < n) : ∃ b off, a = some ⟨b, off, none⟩ ∧ ∀ d, d < sz → w.cell? ⟨b, off + i * sz + d, none⟩ = some (f i d) := by
  rcases h with h0 | ⟨b, off, rfl, hc⟩
  · omega
  · exact ⟨b, off, rfl, hc i hi⟩
def flF (l : List Fl) (i d : Nat) : Value := match d with
  | 0 => .string (l.getD i zFl).name
  | _ => .int .i64 (l.getD i zFl).typ
def inF (l : List Int) (i _d : Nat) : Value := .int .i64 (l.getD i 0)
def byF (l : List Nat) (i _d : Nat) : Value := .int .u8 ((l.getD i 0 : Nat) : Int)
def txF (l : List ByteArray) (i _d : Nat) : Value := .string (l.getD i ⟨#[]⟩)
def tyF (l : List TyP) (i d : Nat) : Value := match d with
  | 0 => .int .u8 ((l.getD i zTP).t.kind : Int)
  | 1 => .string (l.getD i zTP).t.name
  | 2 => .slice (l.getD i zTP).fa (l.getD i zTP).t.fields.length (l.getD i zTP).fc
  | 3 => .int .i64 (l.getD i zTP).t.elem
  | _ => .int .i64 (l.getD i zTP).t.len
def roF (l : List RoP) (i d : Nat) : Value := match d with
  | 0 => .string (l.getD i zRP).r.name
  | 1 => .slice (l.getD i zRP).pa (l.getD i zRP).r.params.length (l.getD i zRP).pc
  | 2 => .slice (l.getD i zRP).ra (l.getD i zRP).r.results.length (l.getD i zRP).rc
  | 3 => .int .i64 (l.getD i zRP).r.locals
  | 4 => .int .i64 (l.getD i zRP).r.stack
  | _ => .slice (l.getD i zRP).ca (l.getD i zRP).r.code.length (l.getD i zRP).cc
def N64 (x : Int) : Prop := -9223372036854775808 ≤ x ∧ x ≤ 9223372036854775807
/-- How long things may be that lie in memory. -/
def big : Nat := 140737488355328
structure TyIn (w : World) (x : TyP) : Prop where
  row : RowAt w x.fa 2 x.t.fields.length (flF x.t.fields)
  kind : x.t.kind < 256
  name : x.t.name.size ≤ big
  elem : N64 x.t.elem
  len : N64 x.t.len
  each : ∀ y ∈ x.t.fields, y.name.size ≤ big ∧ N64 y.typ
  no : x.fa = none → x.fc = 0
  le : x.t.fields.length ≤ x.fc
  mx : x.t.fields.length ≤ big
  cm : x.fc ≤ maxLen
structure RoIn (w : World) (x : RoP) : Prop where
  params : RowAt w x.pa 1 x.r.params.length (inF x.r.params)
  results : RowAt w x.ra 1 x.r.results.length (inF x.r.results)
  code : Lies w x.ca x.r.code
  name : x.r.name.size ≤ big
  locals : N64 x.r.locals
  stack : N64 x.r.stack
  eachp : ∀ y ∈ x.r.params, N64 y
  eachr : ∀ y ∈ x.r.results, N64 y
  pno : x.pa = none → x.pc = 0
  ple : x.r.params.length ≤ x.pc
  pmx : x.r.params.length ≤ big
  pcm : x.pc ≤ maxLen
  rno : x.ra = none → x.rc = 0
  rle : x.r.results.length ≤ x.rc
  rmx : x.r.results.length ≤ big
  rcm : x.rc ≤ maxLen
  cno : x.ca = none → x.cc = 0
  cle : x.r.code.length ≤ x.cc
  cmx : x.r.code.length ≤ big
  ccm : x.cc ≤ maxLen
/-- A module in memory: its three lists and where they lie. -/
structure MoP where
  tys : List TyP
  ta : Option Addr
  tc : Nat
  txs : List ByteArray
  sa : Option Addr
  sc : Nat
  fns : List RoP
  fa : Option Addr
  fc : Nat
def MoP.mo (m : MoP) : Mo := ⟨m.tys.map TyP.t, m.txs, m.fns.map RoP.r⟩
abbrev MoP.cs (m : MoP) : Array Value := #[.slice m.ta m.tys.length m.tc, .slice m.sa m.txs.length m.sc, .slice m.fa m.fns.length m.fc]
structure MoIn (w : World) (m : MoP) : Prop where
  tyr : RowAt w m.ta 5 m.tys.length (tyF m.tys)
  txr : RowAt w m.sa 1 m.txs.length (txF m.txs)
  fnr : RowAt w m.fa 6 m.fns.length (roF m.fns)
  ty : ∀ x ∈ m.tys, TyIn w x
  tx : ∀ s ∈ m.txs, s.size ≤ big
  fn : ∀ x ∈ m.fns, RoIn w x
  tno : m.ta = none → m.tc = 0
  tle : m.tys.length ≤ m.tc
  tmx : m.tys.length ≤ big
  tcm : m.tc ≤ maxLen
  sno : m.sa = none → m.sc = 0
  sle : m.txs.length ≤ m.sc
  smx : m.txs.length ≤ big
  scm : m.sc ≤ maxLen
  fno : m.fa = none → m.fc = 0
  fle : m.fns.length ≤ m.fc
  fmx : m.fns.length ≤ big
  fcm : m.fc ≤ maxLen
theorem TyIn.below {w w' : World} {x : TyP} (h : TyIn w x) (hb : Below w.heap.size w w') : TyIn w' x := { h with row := h.row.below hb }
theorem RoIn.below {w w' : World} {x : RoP} (h : RoIn w x) (hb : Below w.heap.size w w') : RoIn w' x := { h with params := h.params.below hb, results := h.results.below hb, code := h.code.below hb }
theorem MoIn.below {w w' : World} {m : MoP} (h : MoIn w m) (hb : Below w.heap.size w w') : MoIn w' m :=
  { h with tyr := h.tyr.below hb, txr := h.txr.below hb, fnr := h.fnr.below hb, ty := fun x hx => (h.ty x hx).below hb, fn := fun x hx => (h.fn x hx).below hb }
theorem getD_in {α : Type} {l : List α} {i : Nat} {z : α} (h : i < l.length) : l.getD i z ∈ l := by simp [List.getD, h]
/-- Lists of one length that agree at each place are the same. -/
theorem list_eq {α : Type} {xs ys : List α} (z : α) (hl : xs.length = ys.length) (h : ∀ j, j < xs.length → xs.getD j z = ys.getD j z) : xs = ys := by
  apply List.ext_getElem hl
  intro i h1 h2
  have := h i h1
  simpa [List.getD, h1, h2] using this
theorem list_eq_map {α β : Type} {f : α → β} {xs ys : List α} (z : α) (hl : xs.length = ys.length) (h : ∀ j, j < xs.length → f (xs.getD j z) = f (ys.getD j z)) : xs.map f = ys.map f := by
  apply List.ext_getElem (by simpa using hl)
  intro i h1 h2
  rw [List.length_map] at h1 h2
  have := h i h1
  simpa [List.getD, h1, h2] using this
theorem getD_of_map {α β : Type} {f : α → β} {xs ys : List α} (z : α) (h : xs.map f = ys.map f) (j : Nat) : f (xs.getD j z) = f (ys.getD j z) := by
  have h1 : (xs.map f).getD j (f z) = (ys.map f).getD j (f z) := by rw [h]
  simpa [List.getD, List.getElem?_map, Option.getD_map] using h1
theorem some_bool (p : Prop) : ∃ b : Bool, (b = true ↔ p) := by
  by_cases h : p
  · exact ⟨true, by simp [h]⟩
  · exact ⟨false, by simp [h]⟩
theorem iff_false {b : Bool} {p : Prop} (h : b = true ↔ p) (hp : ¬ p) : b = false := by
  cases b with
  | false => rfl
  | true => exact absurd (h.1 rfl) hp
end Go.Proofs.YtjfdlphkmpkjdaaDoor
