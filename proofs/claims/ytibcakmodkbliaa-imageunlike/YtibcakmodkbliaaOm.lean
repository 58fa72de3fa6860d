/-
  THE PLAIN MATHEMATICS of layer 12 (ops): instructions as bytes, there and back. No Go in sight.
-/
import Derived.Laws.MathBits
import Derived.Laws.Bits64b
import Derived.Laws.BitsAllLaws
namespace Go.Proofs.Ytibcakmodkbliaa
set_option linter.unusedVariables false

/-! ### Fixed forms -/
def fixN (n k : Nat) : List Nat := (List.range k).map fun i => n / 256 ^ i % 256
def wid : List Nat → Nat
  | [] => 0
  | c :: r => c + 256 * wid r
theorem fixN_length (n k : Nat) : (fixN n k).length = k := by simp [fixN]
theorem fixN_byte (n k : Nat) : ∀ c ∈ fixN n k, c < 256 := by
  intro c hc; simp [fixN] at hc; obtain ⟨i, _, rfl⟩ := hc; omega
theorem wid_snoc : ∀ (l : List Nat) (c : Nat), wid (l ++ [c]) = wid l + c * 256 ^ l.length := by
  intro l
  induction l with
  | nil => intro c; simp [wid]
  | cons a r ih => intro c; simp only [List.cons_append, wid, ih, List.length_cons, Nat.pow_succ]; rw [Nat.mul_add, ← Nat.add_assoc]; congr 1; rw [Nat.mul_comm 256, Nat.mul_assoc]
theorem wid_lt : ∀ (l : List Nat), (∀ c ∈ l, c < 256) → wid l < 256 ^ l.length := by
  intro l
  induction l with
  | nil => intro _; simp [wid]
  | cons a r ih =>
    intro h
    have := ih fun c hc => h c (by simp [hc])
    have ha := h a (by simp)
    simp only [wid, List.length_cons, Nat.pow_succ]; omega
theorem fixN_succ (n k : Nat) : fixN n (k + 1) = fixN n k ++ [n / 256 ^ k % 256] := by simp [fixN, List.range_succ]
theorem wid_fixN (n : Nat) : ∀ k, wid (fixN n k) = n % 256 ^ k := by
  intro k
  induction k with
  | zero => simp [fixN, wid]; omega
  | succ k ih =>
    rw [fixN_succ, wid_snoc, ih, fixN_length, Nat.pow_succ, Nat.mod_mul]
    rw [Nat.mul_comm]
theorem fixN_wid : ∀ (l : List Nat), (∀ c ∈ l, c < 256) → fixN (wid l) l.length = l := by
  intro l
  induction l with
  | nil => intro _; rfl
  | cons a r ih =>
    intro h
    have ha := h a (by simp)
    have hr := ih fun c hc => h c (by simp [hc])
    unfold fixN at hr ⊢
    rw [List.length_cons, List.range_succ_eq_map, List.map_cons, List.map_map]
    congr 1
    · simp [wid]; omega
    · refine Eq.trans ?_ hr
      apply List.map_congr_left
      intro i _
      simp only [Function.comp, wid, Nat.succ_eq_add_one, Nat.pow_succ]
      rw [Nat.mul_comm (256 ^ i) 256, ← Nat.div_div_eq_div_mul]
      congr 2
      omega
theorem fixN_mod (n m k : Nat) (h : n % 256 ^ k = m % 256 ^ k) : fixN n k = fixN m k := by
  have e : ∀ n : Nat, fixN n k = fixN (n % 256 ^ k) k := by
    intro n
    unfold fixN
    apply List.map_congr_left
    intro i hi
    have hik : i < k := by simpa using hi
    obtain ⟨d, rfl⟩ : ∃ d, k = i + (d + 1) := ⟨k - i - 1, by omega⟩
    rw [Nat.pow_add, Nat.mod_mul_right_div_self, Nat.pow_succ, Nat.mul_comm, Nat.mod_mul_right_mod]
  rw [e n, e m, h]

/-! ### A number behind an Op: how many bytes, has it a sign, from where to where -/
structure Nm where
  sz : Nat
  sg : Bool
  lo : Int
  hi : Int
def nNone : Nm := ⟨0, false, 0, 0⟩
def nByte : Nm := ⟨1, false, 0, 255⟩
def nShort : Nm := ⟨2, false, 0, 65535⟩
def nPlace : Nm := ⟨4, false, 0, 4294967295⟩
def nWidth : Nm := ⟨1, false, 1, 3⟩
def nKind : Nm := ⟨1, false, 1, 5⟩
def nI8 : Nm := ⟨1, true, -128, 127⟩
def nI32 : Nm := ⟨4, true, -2147483648, 2147483647⟩
def nI64 : Nm := ⟨8, true, -9223372036854775808, 9223372036854775807⟩
def nVal (w : Int) : Nm := if w = 1 then ⟨8, true, -128, 127⟩ else if w = 2 then ⟨8, true, -2147483648, 2147483647⟩ else nI64
def Nm.may (k : Nm) (n : Int) : Bool := decide (k.lo ≤ n ∧ n ≤ k.hi)
def Nm.val (k : Nm) (u : Nat) : Int := if k.sg = true ∧ 256 ^ k.sz ≤ 2 * u then (u : Int) - 256 ^ k.sz else u
def Nm.put (k : Nm) (n : Int) : List Nat := fixN (n % 18446744073709551616).toNat k.sz
/-- What a number has in bounds is in its bytes. -/
structure Nm.Ok (k : Nm) : Prop where
  sz : k.sz ≤ 8
  zero : k.sz = 0 → k.lo = 0 ∧ k.hi = 0
  lo : if k.sg = true then -(256 ^ k.sz : Int) ≤ 2 * k.lo else 0 ≤ k.lo
  hi : if k.sg = true then 2 * k.hi < 256 ^ k.sz else k.hi < 256 ^ k.sz
  l64 : -9223372036854775808 ≤ k.lo
  h64 : k.hi ≤ 9223372036854775807
theorem okNone : nNone.Ok := by refine ⟨by decide, fun _ => ⟨rfl, rfl⟩, by decide, by decide, by decide, by decide⟩
theorem okByte : nByte.Ok := by refine ⟨by decide, by decide, by decide, by decide, by decide, by decide⟩
theorem okShort : nShort.Ok := by refine ⟨by decide, by decide, by decide, by decide, by decide, by decide⟩
theorem okPlace : nPlace.Ok := by refine ⟨by decide, by decide, by decide, by decide, by decide, by decide⟩
theorem okWidth : nWidth.Ok := by refine ⟨by decide, by decide, by decide, by decide, by decide, by decide⟩
theorem okKind : nKind.Ok := by refine ⟨by decide, by decide, by decide, by decide, by decide, by decide⟩
theorem okI8 : nI8.Ok := by refine ⟨by decide, by decide, by decide, by decide, by decide, by decide⟩
theorem okI32 : nI32.Ok := by refine ⟨by decide, by decide, by decide, by decide, by decide, by decide⟩
theorem okI64 : nI64.Ok := by refine ⟨by decide, by decide, by decide, by decide, by decide, by decide⟩
theorem okVal (w : Int) : (nVal w).Ok := by
  unfold nVal
  split
  · refine ⟨by decide, by decide, by decide, by decide, by decide, by decide⟩
  · split
    · refine ⟨by decide, by decide, by decide, by decide, by decide, by decide⟩
    · exact okI64
theorem val_sz (w : Int) : (nVal w).sz = 8 := by unfold nVal; split; rfl; split <;> rfl
theorem Nm.put_length (k : Nm) (n : Int) : (k.put n).length = k.sz := fixN_length _ _
theorem Nm.put_byte (k : Nm) (n : Int) : ∀ c ∈ k.put n, c < 256 := fixN_byte _ _
theorem pow8 (s : Nat) (h : s ≤ 8) : ∃ q : Nat, 18446744073709551616 = 256 ^ s * q := by
  refine ⟨256 ^ (8 - s), ?_⟩
  rw [← Nat.pow_add, show s + (8 - s) = 8 by omega]
theorem put_wid (k : Nm) (h : k.Ok) (n : Int) : ((wid (k.put n) : Nat) : Int) = n % 256 ^ k.sz := by
  unfold Nm.put
  rw [wid_fixN]
  obtain ⟨q, hq⟩ := pow8 k.sz h.sz
  have h0 : 0 ≤ n % 18446744073709551616 := Int.emod_nonneg _ (by decide)
  rw [Int.natCast_emod, Int.toNat_of_nonneg h0]
  have e : ((256 ^ k.sz : Nat) : Int) = 256 ^ k.sz := by simp
  rw [e]
  exact Int.emod_emod_of_dvd n ⟨(q : Int), by have := congrArg (fun x : Nat => (x : Int)) hq; simpa using this⟩
/-- A number that may be is read again. -/
theorem val_put (k : Nm) (h : k.Ok) (n : Int) (hm : k.may n = true) : k.val (wid (k.put n)) = n := by
  unfold Nm.may at hm
  have hm := of_decide_eq_true hm
  have hw := put_wid k h n
  have hl := h.lo
  have hh := h.hi
  generalize wid (k.put n) = u at *
  unfold Nm.val
  obtain ⟨P, hP⟩ : ∃ P : Nat, 256 ^ k.sz = P := ⟨_, rfl⟩
  have hPi : (256 : Int) ^ k.sz = (P : Int) := by rw [← hP]; simp
  have hpos : 0 < P := by rw [← hP]; exact Nat.pow_pos (by omega)
  rw [hPi] at hw hl hh
  rw [hPi, hP]
  cases hs : k.sg with
  | false =>
    rw [hs] at hl hh
    simp only [Bool.false_eq_true, if_false] at hl hh
    simp only [Bool.false_eq_true, false_and, if_false]
    rw [hw, Int.emod_eq_of_lt (by omega) (by omega)]
  | true =>
    rw [hs] at hl hh
    simp only [if_true] at hl hh
    by_cases hn : 0 ≤ n
    · rw [Int.emod_eq_of_lt hn (by omega)] at hw
      rw [if_neg (by rintro ⟨_, q⟩; omega), hw]
    · have e : n % (P : Int) = n + P := by
        rw [← Int.add_emod_right, Int.emod_eq_of_lt (by omega) (by omega)]
      rw [e] at hw
      rw [if_pos ⟨rfl, by omega⟩]
      omega
/-- Bytes that are read are the number's. -/
theorem put_val (k : Nm) (h : k.Ok) (l : List Nat) (hl : l.length = k.sz) (hb : ∀ c ∈ l, c < 256) : k.put (k.val (wid l)) = l := by
  have hlt := wid_lt l hb
  rw [hl] at hlt
  refine Eq.trans ?_ (fixN_wid l hb)
  rw [hl]
  unfold Nm.put
  apply fixN_mod
  obtain ⟨q, hq⟩ := pow8 k.sz h.sz
  generalize wid l = u at *
  have h0 : 0 ≤ k.val u % 18446744073709551616 := Int.emod_nonneg _ (by decide)
  have hz : (((k.val u % 18446744073709551616).toNat % 256 ^ k.sz : Nat) : Int) = ((u % 256 ^ k.sz : Nat) : Int) := by
    rw [Int.natCast_emod, Int.toNat_of_nonneg h0, Int.natCast_emod]
    have e : ((256 ^ k.sz : Nat) : Int) = 256 ^ k.sz := by simp
    rw [e, Int.emod_emod_of_dvd _ ⟨(q : Int), by have := congrArg (fun x : Nat => (x : Int)) hq; simpa using this⟩]
    unfold Nm.val
    split
    · rw [Int.sub_emod_right]
    · rfl
  exact Int.ofNat_inj.1 hz

/-! ### Reading: where it is, and the error -/
abbrev St := Nat × Nat
def Nm.rd (k : Nm) (xs : List Nat) (s : St) : Int × St :=
  if s.2 ≠ 0 ∨ k.sz = 0 then (0, s)
  else if xs.length < s.1 + k.sz then (0, (s.1, 10))
  else if k.may (k.val (wid ((xs.drop s.1).take k.sz))) = true then (k.val (wid ((xs.drop s.1).take k.sz)), (s.1 + k.sz, 0)) else (0, (s.1, 120))
theorem rd_err (k : Nm) (xs : List Nat) (s : St) (h : s.2 ≠ 0) : k.rd xs s = (0, s) := by unfold Nm.rd; rw [if_pos (.inl h)]
def armsR (k : Nm) (xs : List Nat) : Nat → St → List (Int × Int) × St
  | 0, s => ([], s)
  | n + 1, s =>
    let r := k.rd xs s
    let t := nPlace.rd xs r.2
    if t.2.2 ≠ 0 then ([], t.2) else
      let q := armsR k xs n t.2
      if q.2.2 ≠ 0 then ([], q.2) else ((r.1, t.1) :: q.1, q.2)
structure In where
  op : Nat
  a : Int
  b : Int
  arms : List (Int × Int)
def zI : In := ⟨0, 0, 0, []⟩
structure Lay where
  a : Nm
  b : Nm
  arms : Bool
def lay (op : Nat) : Option Lay :=
  if op = 1 then some ⟨nI8, nNone, false⟩ else if op = 2 then some ⟨nI32, nNone, false⟩ else if op = 3 then some ⟨nI64, nNone, false⟩
  else if op = 6 ∨ op = 7 ∨ op = 8 ∨ op = 50 ∨ op = 36 ∨ (39 ≤ op ∧ op ≤ 45) then some ⟨nShort, nNone, false⟩
  else if op = 37 ∨ op = 38 then some ⟨nShort, nShort, false⟩
  else if op = 23 ∨ op = 24 then some ⟨nKind, nNone, false⟩
  else if 11 ≤ op ∧ op ≤ 28 then some ⟨nWidth, nNone, false⟩
  else if op = 29 then some ⟨nWidth, nWidth, false⟩
  else if op = 46 ∨ op = 47 ∨ op = 48 then some ⟨nPlace, nNone, false⟩
  else if op = 52 then some ⟨nByte, nNone, false⟩
  else if op = 49 then some ⟨nWidth, nPlace, true⟩
  else if 1 ≤ op ∧ op ≤ 52 then some ⟨nNone, nNone, false⟩ else none
def Lay.rdArms (l : Lay) (a : Int) (xs : List Nat) (s : St) : List (Int × Int) × St :=
  if l.arms = true then armsR (nVal a) xs (nShort.rd xs s).1.toNat (nShort.rd xs s).2 else ([], s)
def Lay.rd (l : Lay) (op : Nat) (xs : List Nat) (s : St) : In × St :=
  let a := l.a.rd xs s
  let r := l.rdArms a.1 xs a.2
  let b := l.b.rd xs r.2
  (⟨op, a.1, b.1, r.1⟩, b.2)
def dec (xs : List Nat) (p : Int) : In × Nat × Nat :=
  if p < 0 ∨ (xs.length : Int) ≤ p then (zI, 0, 2) else
  match lay (xs.getD p.toNat 0) with
  | none => (zI, 0, 120)
  | some l => if (l.rd (xs.getD p.toNat 0) xs (p.toNat + 1, 0)).2.2 ≠ 0 then (zI, 0, (l.rd (xs.getD p.toNat 0) xs (p.toNat + 1, 0)).2.2)
    else ((l.rd (xs.getD p.toNat 0) xs (p.toNat + 1, 0)).1, (l.rd (xs.getD p.toNat 0) xs (p.toNat + 1, 0)).2.1, 0)
/-! ### Writing -/
def Lay.hasArms (l : Lay) (a : Int) (ar : List (Int × Int)) : Bool :=
  if l.arms = true then decide (ar.length ≤ 65535) && ar.all (fun y => (nVal a).may y.1 && nPlace.may y.2) else ar.isEmpty
def Lay.has (l : Lay) (x : In) : Bool := l.a.may x.a && (l.b.may x.b && l.hasArms x.a x.arms)
def Lay.size (l : Lay) (n : Nat) : Nat := 1 + l.a.sz + l.b.sz + if l.arms = true then 2 + n * 12 else 0
def putArm (y : Int × Int) : List Nat := nI64.put y.1 ++ nPlace.put y.2
def Lay.putArms (l : Lay) (ar : List (Int × Int)) : List Nat := if l.arms = true then nShort.put ar.length ++ (ar.map putArm).flatten else []
def Lay.put (l : Lay) (x : In) : List Nat := x.op :: (l.a.put x.a ++ (l.putArms x.arms ++ l.b.put x.b))
def In.ok (x : In) : Bool := match lay x.op with | none => false | some l => l.has x
def In.size (x : In) : Nat := match lay x.op with | none => 0 | some l => if l.has x = true then l.size x.arms.length else 0
def In.enc (x : In) : List Nat := match lay x.op with | none => [] | some l => if l.has x = true then l.put x else []
structure Lay.Ok (l : Lay) : Prop where
  a : l.a.Ok
  b : l.b.Ok
  w : l.arms = true → l.a = nWidth
theorem ite_some {c : Prop} [Decidable c] {a l : Lay} {e : Option Lay} (h : (if c then some a else e) = some l) : (c ∧ a = l) ∨ (¬ c ∧ e = some l) := by
  by_cases hc : c
  · rw [if_pos hc] at h; exact .inl ⟨hc, Option.some.inj h⟩
  · rw [if_neg hc] at h; exact .inr ⟨hc, h⟩
theorem lay_ok {op : Nat} {l : Lay} (h : lay op = some l) : l.Ok ∧ 1 ≤ op ∧ op ≤ 52 := by
  unfold lay at h
  rcases ite_some h with ⟨hc, rfl⟩ | ⟨hn0, h⟩
  · exact ⟨⟨okI8, okNone, fun q => by first | rfl | cases q⟩, by omega, by omega⟩
  rcases ite_some h with ⟨hc, rfl⟩ | ⟨hn1, h⟩
  · exact ⟨⟨okI32, okNone, fun q => by first | rfl | cases q⟩, by omega, by omega⟩
  rcases ite_some h with ⟨hc, rfl⟩ | ⟨hn2, h⟩
  · exact ⟨⟨okI64, okNone, fun q => by first | rfl | cases q⟩, by omega, by omega⟩
  rcases ite_some h with ⟨hc, rfl⟩ | ⟨hn3, h⟩
  · exact ⟨⟨okShort, okNone, fun q => by first | rfl | cases q⟩, by omega, by omega⟩
  rcases ite_some h with ⟨hc, rfl⟩ | ⟨hn4, h⟩
  · exact ⟨⟨okShort, okShort, fun q => by first | rfl | cases q⟩, by omega, by omega⟩
  rcases ite_some h with ⟨hc, rfl⟩ | ⟨hn5, h⟩
  · exact ⟨⟨okKind, okNone, fun q => by first | rfl | cases q⟩, by omega, by omega⟩
  rcases ite_some h with ⟨hc, rfl⟩ | ⟨hn6, h⟩
  · exact ⟨⟨okWidth, okNone, fun q => by first | rfl | cases q⟩, by omega, by omega⟩
  rcases ite_some h with ⟨hc, rfl⟩ | ⟨hn7, h⟩
  · exact ⟨⟨okWidth, okWidth, fun q => by first | rfl | cases q⟩, by omega, by omega⟩
  rcases ite_some h with ⟨hc, rfl⟩ | ⟨hn8, h⟩
  · exact ⟨⟨okPlace, okNone, fun q => by first | rfl | cases q⟩, by omega, by omega⟩
  rcases ite_some h with ⟨hc, rfl⟩ | ⟨hn9, h⟩
  · exact ⟨⟨okByte, okNone, fun q => by first | rfl | cases q⟩, by omega, by omega⟩
  rcases ite_some h with ⟨hc, rfl⟩ | ⟨hn10, h⟩
  · exact ⟨⟨okWidth, okPlace, fun q => by first | rfl | cases q⟩, by omega, by omega⟩
  rcases ite_some h with ⟨hc, rfl⟩ | ⟨hn11, h⟩
  · exact ⟨⟨okNone, okNone, fun q => by first | rfl | cases q⟩, by omega, by omega⟩
  cases h
theorem armBytes_length (y : Int × Int) : (putArm y).length = 12 := by simp [putArm, Nm.put_length]; rfl
theorem putArms_flat (ar : List (Int × Int)) : ((ar.map putArm).flatten).length = ar.length * 12 := by
  induction ar with
  | nil => rfl
  | cons y r ih => simp only [List.map_cons, List.flatten_cons, List.length_append, ih, armBytes_length, List.length_cons]; omega
theorem Lay.put_length (l : Lay) (x : In) : (l.put x).length = l.size x.arms.length := by
  unfold Lay.put Lay.size Lay.putArms
  simp only [List.length_cons, List.length_append, Nm.put_length]
  split
  · simp only [List.length_append, Nm.put_length, putArms_flat]; show _ + (2 + _ + _) + 1 = _; omega
  · simp; omega
theorem enc_length (x : In) : x.enc.length = x.size := by
  unfold In.enc In.size
  split
  · rfl
  · split
    · exact Lay.put_length _ x
    · rfl
theorem size_pos (x : In) : x.ok = true ↔ 0 < x.size := by
  unfold In.ok In.size
  split
  · simp
  · rename_i l _
    cases h : l.has x
    · simp
    · simp only [if_true]; unfold Lay.size; simp; omega
theorem enc_byte (x : In) (h : x.op < 256) : ∀ c ∈ x.enc, c < 256 := by
  unfold In.enc
  split
  · simp
  · split
    · rename_i l _ _
      intro c hc
      unfold Lay.put at hc
      rcases List.mem_cons.1 hc with rfl | hc
      · exact h
      · rcases List.mem_append.1 hc with hc | hc
        · exact Nm.put_byte _ _ c hc
        · rcases List.mem_append.1 hc with hc | hc
          · unfold Lay.putArms at hc
            split at hc
            · rcases List.mem_append.1 hc with hc | hc
              · exact Nm.put_byte _ _ c hc
              · obtain ⟨u, hu, hc⟩ := List.mem_flatten.1 hc
                obtain ⟨y, _, rfl⟩ := List.mem_map.1 hu
                rcases List.mem_append.1 hc with hc | hc
                · exact Nm.put_byte _ _ c hc
                · exact Nm.put_byte _ _ c hc
            · cases hc
          · exact Nm.put_byte _ _ c hc
    · simp

/-! ### Bytes that are read are what was written; of fewer it is short -/
structure Rds {α : Type} (R : List Nat → St → α × St) (u : List Nat) (a : α) : Prop where
  whole : ∀ xs p rest, xs.drop p = u ++ rest → R xs (p, 0) = (a, (p + u.length, 0))
  short : ∀ xs p j, j < u.length → xs.drop p = u.take j → (R xs (p, 0)).2.2 = 10
def Passes {α : Type} (R : List Nat → St → α × St) : Prop := ∀ xs s, s.2 ≠ 0 → (R xs s).2 = s
theorem Rds.then {α β : Type} {R : List Nat → St → α × St} {S : α → List Nat → St → β × St} {u v : List Nat} {a : α} {b : β} (h : Rds R u a) (k : Rds (S a) v b) (hp : ∀ c, Passes (S c)) :
    Rds (fun xs s => S (R xs s).1 xs (R xs s).2) (u ++ v) b := by
  refine ⟨fun xs p rest e => ?_, fun xs p j hj e => ?_⟩
  · rw [List.append_assoc] at e
    have e1 := h.whole xs p (v ++ rest) e
    simp only [e1]
    have e2 : xs.drop (p + u.length) = v ++ rest := by rw [← List.drop_drop, e, List.drop_left]
    rw [k.whole xs _ rest e2, List.length_append, Nat.add_assoc]
  · by_cases hju : j < u.length
    · rw [List.take_append_of_le_length (by omega)] at e
      have e1 := h.short xs p j hju e
      have hne : (R xs (p, 0)).2.2 ≠ 0 := by rw [e1]; decide
      show (S (R xs (p, 0)).1 xs (R xs (p, 0)).2).2.2 = 10
      rw [hp _ xs _ hne, e1]
    · obtain ⟨d, rfl⟩ : ∃ d, j = u.length + d := ⟨j - u.length, by omega⟩
      rw [List.take_length_add_append] at e
      have e1 := h.whole xs p (v.take d) e
      show (S (R xs (p, 0)).1 xs (R xs (p, 0)).2).2.2 = 10
      rw [e1]
      exact k.short xs _ d (by rw [List.length_append] at hj; omega) (by rw [← List.drop_drop, e, List.drop_left])
theorem Rds.map {α β : Type} {R : List Nat → St → α × St} {u : List Nat} {a : α} (h : Rds R u a) (f : α → β) : Rds (fun xs s => (f (R xs s).1, (R xs s).2)) u (f a) :=
  ⟨fun xs p rest e => by simp only [h.whole xs p rest e], fun xs p j hj e => h.short xs p j hj e⟩
theorem rd_pass (k : Nm) : Passes k.rd := fun xs s h => by rw [rd_err k xs s h]
theorem rds_num (k : Nm) (h : k.Ok) (n : Int) (hm : k.may n = true) : Rds k.rd (k.put n) n := by
  by_cases h0 : k.sz = 0
  · have hu : k.put n = [] := List.eq_nil_of_length_eq_zero (by rw [k.put_length, h0])
    have hn : n = 0 := by have := of_decide_eq_true hm; have := h.zero h0; omega
    rw [hu]
    refine ⟨fun xs p rest _ => ?_, fun xs p j hj => by cases hj⟩
    unfold Nm.rd
    rw [if_pos (.inr h0), hn]; rfl
  · refine ⟨fun xs p rest e => ?_, fun xs p j hj e => ?_⟩
    · have hl := congrArg List.length e
      rw [List.length_append, List.length_drop, k.put_length] at hl
      have ht : (xs.drop p).take k.sz = k.put n := by rw [e, List.take_append_of_le_length (by rw [k.put_length]; exact Nat.le_refl _), ← k.put_length n, List.take_length]
      unfold Nm.rd
      rw [if_neg (by simp [h0]), if_neg (by simp; omega)]
      simp only [ht, val_put k h n hm, hm, if_true, k.put_length]
    · have hl := congrArg List.length e
      rw [List.length_take, List.length_drop] at hl
      rw [k.put_length] at hj hl
      unfold Nm.rd
      rw [if_neg (by simp [h0]), if_pos (by simp; omega)]
theorem armsR_pass (k : Nm) (xs : List Nat) : ∀ n (s : St), s.2 ≠ 0 → armsR k xs n s = ([], s) := by
  intro n
  cases n with
  | zero => intro s _; rfl
  | succ n =>
    intro s h
    unfold armsR
    simp only [rd_err k xs s h, rd_err nPlace xs s h]
    rw [if_pos h]
theorem armR_split (k : Nm) (n : Nat) : armsR k = fun xs m s => armsR k xs m s := rfl
theorem rds_arms (k : Nm) (h : k.Ok) (h8 : k.sz = 8) : ∀ ar : List (Int × Int), (∀ y ∈ ar, k.may y.1 = true ∧ nPlace.may y.2 = true) → Rds (fun xs s => armsR k xs ar.length s) (ar.map putArm).flatten ar := by
  intro ar
  induction ar with
  | nil => intro _; exact ⟨fun xs p rest _ => rfl, fun xs p j hj => by cases hj⟩
  | cons y r ih =>
    intro hy
    obtain ⟨m1, m2⟩ := hy y (by simp)
    have hr := ih fun z hz => hy z (by simp [hz])
    have pe : k.put y.1 = nI64.put y.1 := by unfold Nm.put; rw [h8]; rfl
    have a1 := rds_num k h y.1 m1
    rw [pe] at a1
    have a2 := rds_num nPlace okPlace y.2 m2
    refine ⟨fun xs p rest e => ?_, fun xs p j hj e => ?_⟩
    · have e0 : xs.drop p = nI64.put y.1 ++ (nPlace.put y.2 ++ ((r.map putArm).flatten ++ rest)) := by rw [e]; simp [putArm, List.append_assoc]
      have e1 := a1.whole xs p _ e0
      have d1 : xs.drop (p + (nI64.put y.1).length) = nPlace.put y.2 ++ ((r.map putArm).flatten ++ rest) := by rw [← List.drop_drop, e0, List.drop_left]
      have e2 := a2.whole xs _ _ d1
      have d2 : xs.drop (p + (nI64.put y.1).length + (nPlace.put y.2).length) = (r.map putArm).flatten ++ rest := by rw [← List.drop_drop, d1, List.drop_left]
      have e3 := hr.whole xs _ _ d2
      simp only [List.length_cons]
      unfold armsR
      simp only [e1, e2, e3]
      simp [putArm, Nat.add_assoc]
    · have e0 : xs.drop p = (nI64.put y.1 ++ (nPlace.put y.2 ++ (r.map putArm).flatten)).take j := by rw [e]; simp [putArm, List.append_assoc]
      have hlen : j < 8 + (4 + ((r.map putArm).flatten).length) := by
        have : (List.map putArm (y :: r)).flatten.length = 8 + (4 + ((r.map putArm).flatten).length) := by simp [putArm, Nm.put_length]; show 8 + (4 + _) = _; rfl
        omega
      have l1 : (nI64.put y.1).length = 8 := Nm.put_length _ _
      have l2 : (nPlace.put y.2).length = 4 := Nm.put_length _ _
      simp only [List.length_cons]
      unfold armsR
      by_cases j1 : j < 8
      · rw [List.take_append_of_le_length (by omega)] at e0
        have e1 := a1.short xs p j (by omega) e0
        have hne : (k.rd xs (p, 0)).2.2 ≠ 0 := by rw [e1]; decide
        simp only [rd_err nPlace xs _ hne]
        rw [if_pos hne, e1]
      · obtain ⟨d, rfl⟩ : ∃ d, j = (nI64.put y.1).length + d := ⟨j - 8, by omega⟩
        rw [List.take_length_add_append] at e0
        have e1 := a1.whole xs p _ e0
        have d1 : xs.drop (p + (nI64.put y.1).length) = (nPlace.put y.2 ++ (r.map putArm).flatten).take d := by rw [← List.drop_drop, e0, List.drop_left]
        simp only [e1]
        by_cases j2 : d < 4
        · rw [List.take_append_of_le_length (by omega)] at d1
          have e2 := a2.short xs _ d (by omega) d1
          rw [if_pos (by rw [e2]; decide), e2]
        · obtain ⟨d', rfl⟩ : ∃ d', d = (nPlace.put y.2).length + d' := ⟨d - 4, by omega⟩
          rw [List.take_length_add_append] at d1
          have e2 := a2.whole xs _ _ d1
          have d2 : xs.drop (p + (nI64.put y.1).length + (nPlace.put y.2).length) = ((r.map putArm).flatten).take d' := by rw [← List.drop_drop, d1, List.drop_left]
          have e3 := hr.short xs _ d' (by omega) d2
          simp only [e2]
          rw [if_neg (by simp), if_pos (by rw [e3]; decide), e3]
theorem rdArms_pass (l : Lay) (a : Int) : Passes (l.rdArms a) := by
  intro xs s h
  unfold Lay.rdArms
  split
  · rw [rd_err nShort xs s h, armsR_pass _ xs _ s h]
  · rfl
theorem rds_rdArms (l : Lay) (a : Int) (ar : List (Int × Int)) (h : l.hasArms a ar = true) : Rds (l.rdArms a) (l.putArms ar) ar := by
  unfold Lay.hasArms at h
  unfold Lay.rdArms Lay.putArms
  split
  · rename_i hl
    rw [if_pos hl] at h
    rw [Bool.and_eq_true, decide_eq_true_eq, List.all_eq_true] at h
    have hy : ∀ y ∈ ar, (nVal a).may y.1 = true ∧ nPlace.may y.2 = true := fun y hy => by simpa using h.2 y hy
    have hs := rds_num nShort okShort (ar.length : Int) (by unfold Nm.may nShort; simp; omega)
    have := hs.then (S := fun n xs s => armsR (nVal a) xs n.toNat s) (b := ar) (by simpa using rds_arms (nVal a) (okVal a) (val_sz a) ar hy) (fun c xs s hs => by show (armsR _ xs _ s).2 = s; rw [armsR_pass _ xs _ s hs])
    simpa using this
  · rename_i hl
    rw [if_neg hl] at h
    rw [List.isEmpty_iff.1 h]
    exact ⟨fun xs p rest _ => rfl, fun xs p j hj => by cases hj⟩
theorem rds_lay (l : Lay) (hl : l.Ok) (x : In) (h : l.has x = true) : Rds (l.rd x.op) (l.a.put x.a ++ (l.putArms x.arms ++ l.b.put x.b)) x := by
  unfold Lay.has at h
  rw [Bool.and_eq_true, Bool.and_eq_true] at h
  obtain ⟨h1, h2, h3⟩ := h
  have r1 := rds_num l.a hl.a x.a h1
  have r2 := rds_rdArms l x.a x.arms h3
  have r3 := rds_num l.b hl.b x.b h2
  have r23 := fun (a : Int) => (fun c : List (Int × Int) => c)
  have t := r1.then (S := fun a xs s => ((⟨x.op, a, (l.b.rd xs (l.rdArms a xs s).2).1, (l.rdArms a xs s).1⟩ : In), (l.b.rd xs (l.rdArms a xs s).2).2)) (v := l.putArms x.arms ++ l.b.put x.b) (b := x)
    (r2.then (S := fun ar xs s => ((⟨x.op, x.a, (l.b.rd xs s).1, ar⟩ : In), (l.b.rd xs s).2)) (b := x) (r3.map fun b => (⟨x.op, x.a, b, x.arms⟩ : In)) (fun c xs s hs => rd_pass l.b xs s hs))
    (fun c xs s hs => by
      show (l.b.rd xs (l.rdArms c xs s).2).2 = s
      rw [rdArms_pass l c xs s hs]; exact rd_pass l.b xs s hs)
  exact t
theorem drop_at {xs u : List Nat} {p c : Nat} (e : xs.drop p = c :: u) : xs.getD p 0 = c ∧ xs.drop (p + 1) = u ∧ p < xs.length := by
  have hp : p < xs.length := by
    have := congrArg List.length e
    rw [List.length_drop, List.length_cons] at this; omega
  rw [List.drop_eq_getElem_cons hp] at e
  injection e with e1 e2
  exact ⟨by simp [List.getD, hp, e1], e2, hp⟩
/-- THERE AND BACK. -/
theorem dec_enc (x : In) (h : x.ok = true) (xs rest : List Nat) (p : Nat) (e : xs.drop p = x.enc ++ rest) : dec xs p = (x, p + x.size, 0) := by
  unfold In.ok at h
  have hs := enc_length x
  unfold In.enc at e hs
  cases hl : lay x.op with
  | none => rw [hl] at h; cases h
  | some l =>
    rw [hl] at h e hs
    simp only at h e hs
    rw [if_pos h] at e hs
    have e' : xs.drop p = x.op :: ((l.a.put x.a ++ (l.putArms x.arms ++ l.b.put x.b)) ++ rest) := by rw [e]; rfl
    have ⟨c1, c2, c3⟩ := drop_at e'
    have hr := (rds_lay l (lay_ok hl).1 x h).whole xs (p + 1) rest c2
    unfold dec
    rw [if_neg (by omega), Int.toNat_natCast, c1, hl]
    simp only [hr]
    rw [if_neg (by simp)]
    congr 1
    congr 1
    have : (l.put x).length = 1 + (l.a.put x.a ++ (l.putArms x.arms ++ l.b.put x.b)).length := by unfold Lay.put; rw [List.length_cons]; omega
    omega
theorem dec_short (x : In) (h : x.ok = true) (i : Nat) (h1 : 1 ≤ i) (h2 : i < x.size) : dec (x.enc.take i) 0 = (zI, 0, 10) := by
  unfold In.ok at h
  have hs := enc_length x
  unfold In.enc at hs ⊢
  cases hl : lay x.op with
  | none => rw [hl] at h; cases h
  | some l =>
    rw [hl] at h hs
    simp only at h hs ⊢
    rw [if_pos h] at hs ⊢
    obtain ⟨j, rfl⟩ : ∃ j, i = j + 1 := ⟨i - 1, by omega⟩
    have e : (l.put x).take (j + 1) = x.op :: (l.a.put x.a ++ (l.putArms x.arms ++ l.b.put x.b)).take j := rfl
    have hlen : (l.put x).length = 1 + (l.a.put x.a ++ (l.putArms x.arms ++ l.b.put x.b)).length := by unfold Lay.put; rw [List.length_cons]; omega
    have hr := (rds_lay l (lay_ok hl).1 x h).short ((l.put x).take (j + 1)) 1 j (by omega) (by rw [e]; rfl)
    have hl0 : ((l.put x).take (j + 1)).length ≠ 0 := by rw [List.length_take]; omega
    unfold dec
    rw [if_neg (by omega)]
    have c1 : ((l.put x).take (j + 1)).getD (0 : Int).toNat 0 = x.op := by rw [e]; rfl
    rw [c1, hl]
    have hr2 : (l.rd x.op ((l.put x).take (j + 1)) ((0 : Int).toNat + 1, 0)).2.2 = 10 := hr
    simp only [hr2]
    rfl

/-! ### What is read is written again -/
theorem rd_forth (k : Nm) (h : k.Ok) (xs : List Nat) (hb : ∀ c ∈ xs, c < 256) (s : St) (n : Int) (s' : St) (e : k.rd xs s = (n, s')) (h0 : s'.2 = 0) (hz : s.1 ≤ xs.length) :
    s.2 = 0 ∧ s'.1 = s.1 + k.sz ∧ s'.1 ≤ xs.length ∧ k.may n = true ∧ k.put n = (xs.drop s.1).take k.sz := by
  unfold Nm.rd at e
  by_cases h1 : s.2 ≠ 0 ∨ k.sz = 0
  · rw [if_pos h1] at e
    cases e
    rcases h1 with h1 | h1
    · exact absurd h0 h1
    · have hzz := h.zero h1
      refine ⟨h0, by omega, by omega, by unfold Nm.may; simp; omega, ?_⟩
      rw [h1]
      exact List.eq_nil_of_length_eq_zero (by rw [k.put_length, h1])
  · rw [if_neg h1] at e
    have hs0 : s.2 = 0 := by by_cases q : s.2 = 0; exact q; exact absurd (.inl q) h1
    by_cases h2 : xs.length < s.1 + k.sz
    · rw [if_pos h2] at e; cases e; cases h0
    · rw [if_neg h2] at e
      by_cases h3 : k.may (k.val (wid ((xs.drop s.1).take k.sz))) = true
      · rw [if_pos h3] at e
        cases e
        exact ⟨hs0, rfl, by show s.1 + k.sz ≤ _; omega, h3, put_val k h _ (by rw [List.length_take, List.length_drop]; omega) (fun c hc => hb c (List.mem_of_mem_drop (List.mem_of_mem_take hc)))⟩
      · rw [if_neg h3] at e; cases e; cases h0
theorem take_take_drop (xs : List Nat) (p a b : Nat) : (xs.drop p).take a ++ (xs.drop (p + a)).take b = (xs.drop p).take (a + b) := by
  rw [List.take_add, List.drop_drop]
theorem arms_forth (k : Nm) (h : k.Ok) (h8 : k.sz = 8) (xs : List Nat) (hb : ∀ c ∈ xs, c < 256) : ∀ n (s : St) (ar : List (Int × Int)) (s' : St), armsR k xs n s = (ar, s') → s'.2 = 0 → s.1 ≤ xs.length →
    s.2 = 0 ∧ ar.length = n ∧ s'.1 = s.1 + n * 12 ∧ s'.1 ≤ xs.length ∧ (∀ y ∈ ar, k.may y.1 = true ∧ nPlace.may y.2 = true) ∧ (ar.map putArm).flatten = (xs.drop s.1).take (n * 12) := by
  intro n
  induction n with
  | zero => intro s ar s' e h0 hz; cases e; exact ⟨h0, rfl, by omega, hz, by simp, by simp⟩
  | succ n ih =>
    intro s ar s' e h0 hz
    unfold armsR at e
    cases e1 : k.rd xs s with
    | mk v s1 =>
    cases e2 : nPlace.rd xs s1 with
    | mk t s2 =>
    cases e3 : armsR k xs n s2 with
    | mk r s3 =>
    simp only [e1, e2, e3] at e
    by_cases q1 : s2.2 = 0
    · rw [if_neg (by omega)] at e
      by_cases q2 : s3.2 = 0
      · rw [if_neg (by omega)] at e
        cases e
        have hs1 : s1.1 ≤ xs.length := by
          by_cases q0 : s1.2 = 0
          · exact (rd_forth k h xs hb s v s1 e1 q0 hz).2.2.1
          · rw [rd_err nPlace xs s1 q0] at e2; cases e2; exact absurd q1 q0
        obtain ⟨b1, b2, b3, b4, b5⟩ := rd_forth nPlace okPlace xs hb s1 t s2 e2 q1 hs1
        obtain ⟨a1, a2, a3, a4, a5⟩ := rd_forth k h xs hb s v s1 e1 b1 hz
        obtain ⟨c1, c2, c3, c4, c5, c6⟩ := ih s2 r _ e3 q2 b3
        have z4 : nPlace.sz = 4 := rfl
        rw [z4] at b2 b5
        rw [h8] at a2 a5
        refine ⟨a1, by simp [c2], by omega, c4, ?_, ?_⟩
        · intro y hy
          rcases List.mem_cons.1 hy with rfl | hy
          · exact ⟨a4, b4⟩
          · exact c5 y hy
        · have pe : k.put v = nI64.put v := by unfold Nm.put; rw [h8]; rfl
          show (nI64.put v ++ nPlace.put t) ++ (r.map putArm).flatten = _
          rw [c6, ← pe, a5, b5, b2, a2, List.append_assoc, take_take_drop, take_take_drop]
          congr 1
          omega
      · rw [if_pos q2] at e; cases e; exact absurd h0 q2
    · rw [if_pos q1] at e; cases e; exact absurd h0 q1
theorem lay_forth (l : Lay) (hl : l.Ok) (op : Nat) (xs : List Nat) (hb : ∀ c ∈ xs, c < 256) (s : St) (x : In) (s' : St) (e : l.rd op xs s = (x, s')) (h0 : s'.2 = 0) (hz : s.1 ≤ xs.length) :
    x.op = op ∧ s.1 ≤ s'.1 ∧ s'.1 ≤ xs.length ∧ l.has x = true ∧ l.a.put x.a ++ (l.putArms x.arms ++ l.b.put x.b) = (xs.drop s.1).take (s'.1 - s.1) ∧ s'.1 = s.1 + (l.size x.arms.length - 1) := by
  unfold Lay.rd at e
  cases e1 : l.a.rd xs s with
  | mk a s1 =>
  cases e2 : l.rdArms a xs s1 with
  | mk ar s2 =>
  cases e3 : l.b.rd xs s2 with
  | mk b s3 =>
  simp only [e1, e2, e3] at e
  cases e
  have q2 : s2.2 = 0 := by
    by_cases q2 : s2.2 = 0
    · exact q2
    · rw [rd_err l.b xs s2 q2] at e3; cases e3; exact absurd h0 q2
  have q1 : s1.2 = 0 := by
    by_cases q1 : s1.2 = 0
    · exact q1
    · have := rdArms_pass l a xs s1 q1; rw [e2] at this; simp only at this; rw [this] at q2; exact absurd q2 q1
  obtain ⟨a1, a2, a3, a4, a5⟩ := rd_forth l.a hl.a xs hb s a s1 e1 q1 hz
  have harms : s2.1 = s1.1 + (l.putArms ar).length ∧ s2.1 ≤ xs.length ∧ l.hasArms a ar = true ∧ l.putArms ar = (xs.drop s1.1).take (l.putArms ar).length := by
    unfold Lay.rdArms at e2
    unfold Lay.putArms Lay.hasArms
    by_cases ha : l.arms = true
    · rw [if_pos ha] at e2 ⊢
      rw [if_pos ha]
      cases e4 : nShort.rd xs s1 with
      | mk n s4 =>
      rw [e4] at e2
      have q4 : s4.2 = 0 := by
        by_cases q4 : s4.2 = 0
        · exact q4
        · rw [armsR_pass _ xs _ s4 q4] at e2; cases e2; exact absurd q2 q4
      obtain ⟨n1, n2, n3, n4, n5⟩ := rd_forth nShort okShort xs hb s1 n s4 e4 q4 a3
      obtain ⟨m1, m2, m3, m4, m5, m6⟩ := arms_forth (nVal a) (okVal a) (val_sz a) xs hb n.toNat s4 ar s2 e2 q2 n3
      have hn := of_decide_eq_true n4
      have hn2 : 0 ≤ n ∧ n ≤ 65535 := hn
      have hnl : (ar.length : Int) = n := by omega
      rw [hnl]
      have z2 : nShort.sz = 2 := rfl
      rw [z2] at n2 n5
      have hlen : (nShort.put n ++ (ar.map putArm).flatten).length = 2 + n.toNat * 12 := by rw [List.length_append, Nm.put_length, putArms_flat, m2]; rfl
      rw [hlen]
      refine ⟨by omega, m4, ?_, ?_⟩
      · rw [Bool.and_eq_true, decide_eq_true_eq, List.all_eq_true]
        exact ⟨by omega, fun y hy => by simpa using m5 y hy⟩
      · rw [n5, m6, n2, take_take_drop]
    · rw [if_neg ha] at e2 ⊢
      rw [if_neg ha]
      cases e2
      exact ⟨by simp, a3, rfl, by simp⟩
  obtain ⟨r1, r2, r3, r4⟩ := harms
  obtain ⟨b1, b2, b3, b4, b5⟩ := rd_forth l.b hl.b xs hb s2 b s' e3 h0 r2
  have hsz : l.size ar.length = 1 + l.a.sz + (l.putArms ar).length + l.b.sz := by
    unfold Lay.size Lay.putArms
    split
    · rw [List.length_append, Nm.put_length, putArms_flat]; show _ = 1 + l.a.sz + (2 + _) + _; omega
    · simp
  refine ⟨rfl, by show s.1 ≤ s'.1; omega, b3, ?_, ?_, ?_⟩
  · unfold Lay.has
    simp only [a4, b4, r3, Bool.and_true]
  · show l.a.put a ++ (l.putArms ar ++ l.b.put b) = _
    rw [a5, r4, b5, r1, a2, take_take_drop, take_take_drop]
    congr 1
    omega
  · show s'.1 = s.1 + (l.size ar.length - 1)
    rw [hsz]; omega
theorem dec_forth (xs : List Nat) (hb : ∀ c ∈ xs, c < 256) (p : Int) (x : In) (q : Nat) (e : dec xs p = (x, q, 0)) :
    0 ≤ p ∧ p < q ∧ q ≤ xs.length ∧ x.ok = true ∧ x.enc = (xs.drop p.toNat).take (q - p.toNat) ∧ (x.size : Int) = q - p ∧ x.op < 256 := by
  unfold dec at e
  by_cases h1 : p < 0 ∨ (xs.length : Int) ≤ p
  · rw [if_pos h1] at e; cases e
  · rw [if_neg h1] at e
    obtain ⟨k, rfl⟩ := Int.eq_ofNat_of_zero_le (show 0 ≤ p by omega)
    rw [Int.toNat_natCast] at e ⊢
    have hk : k < xs.length := by omega
    cases hl : lay (xs.getD k 0) with
    | none => rw [hl] at e; cases e
    | some l =>
      rw [hl] at e
      simp only at e
      cases hr : l.rd (xs.getD k 0) xs (k + 1, 0) with
      | mk x' s' =>
      obtain ⟨q', e'⟩ := s'
      rw [hr] at e
      simp only at e
      by_cases h2 : e' ≠ 0
      · rw [if_pos h2] at e
        exact absurd (Prod.mk.inj (Prod.mk.inj e).2).2 h2
      · rw [if_neg h2] at e
        have h2' : e' = 0 := by omega
        subst h2'
        obtain ⟨e1, e2⟩ := Prod.mk.inj e
        obtain ⟨e2, -⟩ := Prod.mk.inj e2
        have e1 := e1.symm
        have e2 := e2.symm
        subst e1
        subst e2
        obtain ⟨g1, g2, g3, g4, g5, g6⟩ := lay_forth l (lay_ok hl).1 (xs.getD k 0) xs hb (k + 1, 0) _ _ hr rfl (by show k + 1 ≤ _; omega)
        rw [← g1] at hl
        have hok : x.ok = true := by unfold In.ok; rw [hl]; exact g4
        have hsz : x.size = l.size x.arms.length := by unfold In.size; rw [hl]; simp only [g4, if_true]
        have hge : 1 ≤ l.size x.arms.length := by unfold Lay.size; omega
        simp only at g2 g6
        refine ⟨by omega, by omega, g3, hok, ?_, by omega, ?_⟩
        · unfold In.enc
          rw [hl]
          simp only [g4, if_true]
          unfold Lay.put
          simp only at g5
          rw [g5, g1]
          obtain ⟨d, rfl⟩ : ∃ d, q = k + 1 + d := ⟨q - (k + 1), by omega⟩
          rw [show k + 1 + d - (k + 1) = d by omega, show k + 1 + d - k = d + 1 by omega, List.drop_eq_getElem_cons hk, List.take_succ_cons]
          simp [List.getD, hk]
        · rw [g1]
          simp only [List.getD, List.getElem?_eq_getElem hk, Option.getD_some]
          exact hb _ (List.getElem_mem hk)
theorem dec_bad (xs : List Nat) (p : Int) (h : (dec xs p).2.2 ≠ 0) : dec xs p = (zI, 0, (dec xs p).2.2) := by
  unfold dec at h ⊢
  split
  · rfl
  · rename_i h1
    rw [if_neg h1] at h
    split
    · rfl
    · rename_i l hl
      rw [hl] at h
      simp only at h
      split
      · rfl
      · rename_i h2
        rw [if_neg h2] at h
        exact absurd rfl h

/-! ### All of them -/
def allR (xs : List Nat) : Nat → Nat → List In × List Nat × Nat
  | 0, _ => ([], [], 0)
  | f + 1, p => if xs.length ≤ p then ([], [], 0) else
    let d := dec xs p
    if d.2.2 ≠ 0 then ([], [], d.2.2) else
      let r := allR xs f d.2.1
      if r.2.2 ≠ 0 then ([], [], r.2.2) else (d.1 :: r.1, p :: r.2.1, 0)
def allD (xs : List Nat) : List In × List Nat × Nat := allR xs xs.length 0
def places : Nat → List In → List Nat
  | _, [] => []
  | p, x :: r => p :: places (p + x.size) r
theorem allR_enc (xs : List Nat) : ∀ (l : List In) (f p : Nat), (∀ x ∈ l, x.ok = true) → xs.drop p = (l.map In.enc).flatten → xs.length ≤ p + f → allR xs f p = (l, places p l, 0) := by
  intro l
  induction l with
  | nil =>
    intro f p _ e _
    have hp : xs.length ≤ p := by
      have := congrArg List.length e
      rw [List.length_drop] at this; simp at this; omega
    cases f with
    | zero => rfl
    | succ f => unfold allR; rw [if_pos hp]; rfl
  | cons x r ih =>
    intro f p h e hf
    have hx := h x (by simp)
    rw [List.map_cons, List.flatten_cons] at e
    have hd := dec_enc x hx xs _ p e
    have hpos := (size_pos x).1 hx
    have hl := congrArg List.length e
    rw [List.length_drop, List.length_append, enc_length] at hl
    have e2 : xs.drop (p + x.size) = (r.map In.enc).flatten := by rw [← List.drop_drop, e, ← enc_length, List.drop_left]
    cases f with
    | zero => omega
    | succ f =>
      unfold allR
      rw [if_neg (by omega)]
      simp only [hd]
      rw [if_neg (by simp), ih f (p + x.size) (fun y hy => h y (by simp [hy])) e2 (by omega)]
      rfl
end Go.Proofs.Ytibcakmodkbliaa
