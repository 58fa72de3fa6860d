/-
  OpsKnown: what each call answers.
-/
import Derived.Test.YtjfdlphkmpkjdaaDoorOk1
import Derived.Test.YtjfdlphkmpkjdaaDoorJck
import Derived.Test.YtjfdlphkmpkjdaaDoorSm
import Derived.Test.YtjfdlphkmpkjdaaDoorJms
import Derived.Test.YtjfdlphkmpkjdaaDoorJml
import Derived.Test.YtjfdlphkmpkjdaaDoorJal
import Derived.Laws.MakeOwn
namespace Go.Proofs.YtjfdlphkmpkjdaaDoor
open Go.RowKit
set_option linter.unusedVariables false

abbrev RT (w : World) (e : Ending) (w' : World) : Prop := e = .returned (.bool true) ∧ Below w.heap.size w w'
theorem lies0 {w : World} (op : Nat) (a b : Int) (ho : op < 256) (ha : -9223372036854775808 ≤ a ∧ a ≤ 9223372036854775807) (hb : -9223372036854775808 ≤ b ∧ b ≤ 9223372036854775807) : InLies w ⟨op, a, b, []⟩ none := ⟨ho, ha, hb, ⟨by simp, .inl rfl⟩⟩
theorem by0 (w : World) (op : Nat) (a b : Int) (s : ByteArray) (ho : op < 256) (ha : -9223372036854775808 ≤ a ∧ a ≤ 9223372036854775807) (hb : -9223372036854775808 ≤ b ∧ b ≤ 9223372036854775807) (hok : (⟨op, a, b, []⟩ : In).ok = true) (hs : strN (⟨op, a, b, []⟩ : In).enc = s) :
    Calls Tryd.prog 14 #[.agg #[.int .u8 (op : Int), .int .i64 a, .int .i64 b, .slice none 0 0], .string s] w (RT w) := bytes_as (cp := 0) (lies0 op a b ho ha hb) 0 rfl (by omega) hok s hs
theorem b1 (w : World) : Calls Tryd.prog 14 #[.agg #[.int .u8 1, .int .i64 (-1), .int .i64 0, .slice none 0 0], .string ⟨#[1, 255]⟩] w (RT w) := by0 w 1 (-1) 0 _ (by decide) (by decide) (by decide) (by rfl) (by rfl)
theorem b2 (w : World) : Calls Tryd.prog 14 #[.agg #[.int .u8 2, .int .i64 258, .int .i64 0, .slice none 0 0], .string ⟨#[2, 2, 1, 0, 0]⟩] w (RT w) := by0 w 2 258 0 _ (by decide) (by decide) (by decide) (by rfl) (by rfl)
theorem b3 (w : World) : Calls Tryd.prog 14 #[.agg #[.int .u8 4, .int .i64 0, .int .i64 0, .slice none 0 0], .string ⟨#[4]⟩] w (RT w) := by0 w 4 0 0 _ (by decide) (by decide) (by decide) (by rfl) (by rfl)
theorem b4 (w : World) : Calls Tryd.prog 14 #[.agg #[.int .u8 29, .int .i64 1, .int .i64 3, .slice none 0 0], .string ⟨#[29, 1, 3]⟩] w (RT w) := by0 w 29 1 3 _ (by decide) (by decide) (by decide) (by rfl) (by rfl)
theorem b6 (w : World) : Calls Tryd.prog 14 #[.agg #[.int .u8 3, .int .i64 (-9223372036854775808), .int .i64 0, .slice none 0 0], .string ⟨#[3, 0, 0, 0, 0, 0, 0, 0, 128]⟩] w (RT w) := by0 w 3 (-9223372036854775808) 0 _ (by decide) (by decide) (by decide) (by rfl) (by rfl)
/-- Arms that lie in a block of their own. -/
theorem armsOwn {w : World} {g : Nat} {ar : List (Int × Int)} {cs : Array Value} (h : Own w g cs 44) (hc : ∀ i, i < ar.length → cs[i * 2]? = some (.int .i64 (ar.getD i (0, 0)).1) ∧ cs[i * 2 + 1]? = some (.int .i64 (ar.getD i (0, 0)).2)) (hn : ∀ y ∈ ar, (-9223372036854775808 ≤ y.1 ∧ y.1 ≤ 9223372036854775807) ∧ (-9223372036854775808 ≤ y.2 ∧ y.2 ≤ 9223372036854775807)) : ArmLies w (some ⟨g, 0, none⟩) ar := by
  refine ⟨hn, .inr ⟨g, 0, rfl, h.lt, fun i hi => ?_⟩⟩
  have q := hc i hi
  exact ⟨by rw [Nat.zero_add]; exact (h.cell (i * 2)).trans q.1, by rw [Nat.zero_add]; exact (h.cell (i * 2 + 1)).trans q.2⟩
theorem b5 (w : World) (g : Nat) (h : Own w g #[.int .i64 5, .int .i64 7] 44) : Calls Tryd.prog 14 #[.agg #[.int .u8 49, .int .i64 1, .int .i64 300, .slice (some ⟨g, 0, none⟩) 1 1], .string ⟨#[49, 1, 1, 0, 5, 0, 0, 0, 0, 0, 0, 0, 7, 0, 0, 0, 44, 1, 0, 0]⟩] w (RT w) :=
  bytes_as (x := ⟨49, 1, 300, [(5, 7)]⟩) (cp := 1) ⟨by decide, by decide, by decide, armsOwn h (fun i hi => by
    obtain rfl : i = 0 := by simp at hi; omega
    exact ⟨rfl, rfl⟩) (by simp)⟩ 1 rfl (by omega) (by rfl) _ (by rfl)
theorem wr0 (w : World) (xs : List Nat) (at_ : Int) (er : Nat) (s : ByteArray) (hb : ∀ c ∈ xs, c < 256) (hn : xs.length ≤ 1000) (hs : strN xs = s) (hd : dec xs at_ = (zI, 0, er)) : Calls Tryd.prog 19 #[.string s, .int .i64 at_, .int .i64 (er : Int)] w (RT w) := wrong_as w xs hb hn s hs at_ er hd
def nilV : Value := .slice none 0 0
def at1 (g : Nat) (n : Nat) : Value := .slice (some ⟨g, 0, none⟩) n n
def zA (n : Nat) : List (Int × Int) := List.replicate n (0, 0)
def badPs (g1 g2 g3 g4 : Nat) : List (In × Value) := [(⟨0, 0, 0, []⟩, nilV), (⟨53, 0, 0, []⟩, nilV), (⟨1, 128, 0, []⟩, nilV), (⟨1, -129, 0, []⟩, nilV), (⟨2, 2147483648, 0, []⟩, nilV), (⟨4, 1, 0, []⟩, nilV), (⟨4, 0, 1, []⟩, nilV), (⟨25, 5, 0, []⟩, nilV), (⟨23, 6, 0, []⟩, nilV), (⟨23, 0, 0, []⟩, nilV), (⟨11, 4, 0, []⟩, nilV), (⟨29, 1, 0, []⟩, nilV), (⟨29, 1, 4, []⟩, nilV), (⟨7, -1, 0, []⟩, nilV), (⟨7, 65536, 0, []⟩, nilV), (⟨37, 1, 65536, []⟩, nilV), (⟨46, 4294967296, 0, []⟩, nilV), (⟨46, 1, 1, []⟩, nilV), (⟨52, 256, 0, []⟩, nilV), (⟨52, -1, 0, []⟩, nilV), (⟨49, 1, 0, [(128, 0)]⟩, at1 g1 1), (⟨49, 4, 0, []⟩, nilV), (⟨49, 3, -1, []⟩, nilV), (⟨49, 3, 0, [(0, 4294967296)]⟩, at1 g2 1), (⟨9, 0, 0, [(0, 0)]⟩, at1 g3 1), (⟨49, 3, 0, zA 65536⟩, at1 g4 65536)]
def goodPs (g1 g2 : Nat) : List (In × Value) := [(⟨1, -128, 0, []⟩, nilV), (⟨23, 5, 0, []⟩, nilV), (⟨7, 65535, 0, []⟩, nilV), (⟨46, 4294967295, 0, []⟩, nilV), (⟨52, 255, 0, []⟩, nilV), (⟨49, 3, 0, zA 65535⟩, at1 g1 65535), (⟨49, 2, 0, [(1, 0), (1, 0)]⟩, at1 g2 2)]
def nonePs : List (In × Value) := [(⟨6, 0, 0, []⟩, nilV), (⟨50, 0, 0, []⟩, nilV), (⟨36, 17, 0, []⟩, nilV), (⟨36, 15, 0, []⟩, nilV), (⟨36, 19, 0, []⟩, nilV), (⟨37, 16, 2, []⟩, nilV), (⟨37, 5, 0, []⟩, nilV), (⟨39, 17, 0, []⟩, nilV), (⟨40, 18, 0, []⟩, nilV), (⟨44, 18, 0, []⟩, nilV), (⟨45, 16, 0, []⟩, nilV), (⟨41, 16, 0, []⟩, nilV), (⟨43, 5, 0, []⟩, nilV), (⟨42, 0, 0, []⟩, nilV)]
theorem zA_ok : ∀ n, 65535 < n → (⟨49, 3, 0, zA n⟩ : In).ok = false := fun n h => by
  show (nWidth.may 3 && (nPlace.may 0 && (decide ((zA n).length ≤ 65535) && _))) = false
  rw [decide_eq_false (by unfold zA; rw [List.length_replicate]; omega)]
  simp
theorem zA_good : ∀ n, n ≤ 65535 → (⟨49, 3, 0, zA n⟩ : In).ok = true := fun n h => by
  show (nWidth.may 3 && (nPlace.may 0 && (decide ((zA n).length ≤ 65535) && (zA n).all (fun y => (nVal 3).may y.1 && nPlace.may y.2)))) = true
  rw [decide_eq_true (by unfold zA; rw [List.length_replicate]; exact h)]
  have : (zA n).all (fun y => (nVal 3).may y.1 && nPlace.may y.2) = true := by
    rw [List.all_eq_true]
    intro y hy
    obtain ⟨-, rfl⟩ := List.mem_replicate.1 hy
    rfl
  rw [this]
  rfl
theorem zA_num (n : Nat) : ∀ y ∈ zA n, (-9223372036854775808 ≤ y.1 ∧ y.1 ≤ 9223372036854775807) ∧ (-9223372036854775808 ≤ y.2 ∧ y.2 ≤ 9223372036854775807) := fun y hy => by
  obtain ⟨-, rfl⟩ := List.mem_replicate.1 hy
  decide
/-- An instruction of a list: where its arms lie. -/
structure ItAt (w : World) (y : In × Value) : Prop where
  op : y.1.op < 256
  a : -9223372036854775808 ≤ y.1.a ∧ y.1.a ≤ 9223372036854775807
  b : -9223372036854775808 ≤ y.1.b ∧ y.1.b ≤ 9223372036854775807
  few : y.1.arms.length ≤ 65536
  arms : ∃ ao cp, y.2 = .slice ao y.1.arms.length cp ∧ ArmLies w ao y.1.arms
theorem ItAt.below {w w' : World} {y : In × Value} (h : ItAt w y) (hb : Below w.heap.size w w') : ItAt w' y := by
  obtain ⟨ao, cp, e, ha⟩ := h.arms
  exact ⟨h.op, h.a, h.b, h.few, ao, cp, e, ha.below hb⟩
theorem it0 (w : World) (op : Nat) (a b : Int) (ho : op < 256) (ha : -9223372036854775808 ≤ a ∧ a ≤ 9223372036854775807) (hb : -9223372036854775808 ≤ b ∧ b ≤ 9223372036854775807) : ItAt w (⟨op, a, b, []⟩, nilV) := ⟨ho, ha, hb, by simp, none, 0, rfl, ⟨by simp, .inl rfl⟩⟩
theorem it1 {w : World} {op : Nat} {a b : Int} {ar : List (Int × Int)} {g n : Nat} (ho : op < 256) (ha : -9223372036854775808 ≤ a ∧ a ≤ 9223372036854775807) (hb : -9223372036854775808 ≤ b ∧ b ≤ 9223372036854775807) (hn : n = ar.length) (hf : n ≤ 65536) (h : ArmLies w (some ⟨g, 0, none⟩) ar) : ItAt w (⟨op, a, b, ar⟩, at1 g n) := ⟨ho, ha, hb, by rw [← hn]; exact hf, some ⟨g, 0, none⟩, n, by unfold at1; rw [hn], h⟩
theorem zA_len (n : Nat) : n = (zA n).length := by unfold zA; rw [List.length_replicate]
theorem bad_at {w : World} {g1 g2 g3 g4 : Nat} (h1 : ArmLies w (some ⟨g1, 0, none⟩) [(128, 0)]) (h2 : ArmLies w (some ⟨g2, 0, none⟩) [(0, 4294967296)]) (h3 : ArmLies w (some ⟨g3, 0, none⟩) [(0, 0)]) (h4 : ArmLies w (some ⟨g4, 0, none⟩) (zA 65536)) : ∀ y ∈ badPs g1 g2 g3 g4, ItAt w y ∧ y.1.ok = false := by
  simp only [badPs, List.forall_mem_cons]
  refine ⟨?_, ?_, ?_, ?_, ?_, ?_, ?_, ?_, ?_, ?_, ?_, ?_, ?_, ?_, ?_, ?_, ?_, ?_, ?_, ?_, ⟨it1 (by decide) (by decide) (by decide) rfl (by decide) h1, by rfl⟩, ?_, ?_, ⟨it1 (by decide) (by decide) (by decide) rfl (by decide) h2, by rfl⟩, ⟨it1 (by decide) (by decide) (by decide) rfl (by decide) h3, by rfl⟩, ⟨it1 (by decide) (by decide) (by decide) (zA_len _) (by decide) h4, zA_ok _ (by decide)⟩, by simp⟩
  all_goals exact ⟨it0 w _ _ _ (by decide) (by decide) (by decide), by rfl⟩
theorem good_at {w : World} {g1 g2 : Nat} (h1 : ArmLies w (some ⟨g1, 0, none⟩) (zA 65535)) (h2 : ArmLies w (some ⟨g2, 0, none⟩) [(1, 0), (1, 0)]) : ∀ y ∈ goodPs g1 g2, ItAt w y ∧ y.1.ok = true := by
  simp only [goodPs, List.forall_mem_cons]
  refine ⟨?_, ?_, ?_, ?_, ?_, ⟨it1 (by decide) (by decide) (by decide) (zA_len _) (by decide) h1, zA_good _ (by decide)⟩, ⟨it1 (by decide) (by decide) (by decide) rfl (by decide) h2, by rfl⟩, by simp⟩
  all_goals exact ⟨it0 w _ _ _ (by decide) (by decide) (by decide), by rfl⟩
theorem none_at {w : World} : ∀ y ∈ nonePs, ItAt w y := by
  simp only [nonePs, List.forall_mem_cons]
  refine ⟨?_, ?_, ?_, ?_, ?_, ?_, ?_, ?_, ?_, ?_, ?_, ?_, ?_, ?_, by simp⟩
  all_goals exact it0 w _ _ _ (by decide) (by decide) (by decide)
def zCs (n : Nat) : Array Value := madeCells (Value.agg #[.int .i64 0, .int .i64 0]).cells (n * 2)
theorem zCs_get (n i : Nat) (h : i < n * 2) : (zCs n)[i]? = some (.int .i64 0) := by
  unfold zCs madeCells
  simp only [Array.getElem?_map, Array.getElem?_range, h, if_true, Option.map_some]
  congr 1
  show (#[Value.int .i64 0, Value.int .i64 0] : Array Value)[i % 2]! = _
  rcases Nat.mod_two_eq_zero_or_one i with e | e <;> rw [e] <;> rfl
theorem zA_lies {w : World} {g n : Nat} (h : Own w g (zCs n) 44) : ArmLies w (some ⟨g, 0, none⟩) (zA n) := armsOwn h (fun i hi => by
  have hn : i < n := by rw [zA_len n]; exact hi
  have e : (zA n).getD i (0, 0) = (0, 0) := by simp [zA, List.getD, hn]
  rw [e]
  exact ⟨zCs_get n _ (by omega), zCs_get n _ (by omega)⟩) (zA_num n)
theorem infoArm : (Tryd.prog.info? 44).map (fun i => (i.size, i.bytes, i.zero)) = some (2, 16, some (.agg #[.int .i64 0, .int .i64 0])) := by kernel_rfl
theorem undArms : Tryd.prog.underlying 22 = some (.slice 44) := by kernel_rfl
theorem made_arms (w : World) (n : Nat) (hn : n ≤ 70000) : (Instr.makeSlice 22 (.int .i64 (n : Int)) (.int .i64 (n : Int))).run Tryd.prog w = .ok (at1 w.heap.size n) (w.alloc (.cells (zCs n) 44)) := by
  have hi := infoArm
  cases hh : Tryd.prog.info? 44 with
  | none => rw [hh] at hi; cases hi
  | some i =>
    rw [hh] at hi
    obtain ⟨h1, h2, h3⟩ : i.size = 2 ∧ i.bytes = 16 ∧ i.zero = some (.agg #[.int .i64 0, .int .i64 0]) := by simpa using hi
    have h := run_makeSlice (P := Tryd.prog) (w := w) 22 44 i (.agg #[.int .i64 0, .int .i64 0]) undArms hh h3 .i64 .i64 (n : Int) (n : Int) (by omega) (by omega) (by rw [h1]; omega) (by rw [h2]; omega) (by omega)
    rw [h1] at h
    exact h
/-- What stands in a list's cells. -/
theorem ins_cells {w : World} {g : Nat} {ps : List (In × Value)} (h : Own w g (insC ps).toArray 24) {k : Nat} (hk : k < ps.length) {y : In × Value} (hy : ps.getD k (zI, undef) = y) : w.cell? ⟨g, k * 4, none⟩ = some (.int .u8 (y.1.op : Int)) ∧ w.cell? ⟨g, k * 4 + 1, none⟩ = some (.int .i64 y.1.a) ∧ w.cell? ⟨g, k * 4 + 2, none⟩ = some (.int .i64 y.1.b) ∧ w.cell? ⟨g, k * 4 + 3, none⟩ = some y.2 := by
  have q := insC_get ps k hk
  rw [hy] at q
  exact ⟨(h.cell _).trans (by simpa using q.1), (h.cell _).trans (by simpa using q.2.1), (h.cell _).trans (by simpa using q.2.2.1), (h.cell _).trans (by simpa using q.2.2.2)⟩
/-- What Encode and Size answer of an instruction that is none. -/
def NoR (w : World) (e : Ending) (w' : World) : Prop := ∃ a c, e = .returned (.tuple #[.slice a 0 c, .int .i64 120]) ∧ Below w.heap.size w w'
theorem no_enc {w : World} {y : In × Value} (h : ItAt w y) (hok : y.1.ok = false) : Calls Tryd.prog 15 #[.agg #[.int .u8 (y.1.op : Int), .int .i64 y.1.a, .int .i64 y.1.b, y.2]] w (NoR w) := by
  obtain ⟨ao, cp, e, ha⟩ := h.arms
  have hl : InLies w y.1 ao := ⟨h.op, h.a, h.b, ha⟩
  rw [e]
  refine (enc_as (cp := cp) hl y.1.arms.length rfl (by have := h.few; omega)).mono ?_
  rintro e w' ⟨v, he, hr, -, hb⟩
  have h0 : y.1.enc.length = 0 := by rw [enc_length]; have := size_pos y.1; rw [hok] at this; simp at this; omega
  rw [h0] at hr
  obtain ⟨a, c, rfl, -⟩ := hr.shape
  exact ⟨a, c, by rw [he, hok]; simp, hb⟩
theorem no_size {w : World} {y : In × Value} (h : ItAt w y) (hok : y.1.ok = false) : Calls Tryd.prog 16 #[.agg #[.int .u8 (y.1.op : Int), .int .i64 y.1.a, .int .i64 y.1.b, y.2]] w fun e w' => e = .returned (.int .i64 0) ∧ Below w.heap.size w w' := by
  obtain ⟨ao, cp, e, ha⟩ := h.arms
  have hl : InLies w y.1 ao := ⟨h.op, h.a, h.b, ha⟩
  rw [e]
  have h0 : y.1.size = 0 := by have := size_pos y.1; rw [hok] at this; simp at this; omega
  have := size_as (cp := cp) hl y.1.arms.length rfl (by have := h.few; omega)
  rw [h0] at this
  exact this
/-- What Encode answers of an instruction, and Decode of its bytes. -/
def YesR (w : World) (L : Nat) (ZS : List Value) (e : Ending) (w' : World) : Prop := ∃ a c, e = .returned (.tuple #[.slice a L c, .int .i64 0]) ∧ Rw w' 5 1 (.slice a L c) L ZS ∧ Below w.heap.size w w'
def DcG (w : World) (OP XA XB : Int) (m L : Nat) (AC : List Value) (e : Ending) (w' : World) : Prop := ∃ a c, e = .returned (.tuple #[.agg #[.int .u8 OP, .int .i64 XA, .int .i64 XB, .slice a m c], .int .i64 (L : Int), .int .i64 0]) ∧ Rw w' 44 2 (.slice a m c) m AC ∧ Below w.heap.size w w'
theorem yes_enc {w : World} {y : In × Value} (h : ItAt w y) (hok : y.1.ok = true) : Calls Tryd.prog 15 #[.agg #[.int .u8 (y.1.op : Int), .int .i64 y.1.a, .int .i64 y.1.b, y.2]] w (YesR w y.1.enc.length (nums y.1.enc)) := by
  obtain ⟨ao, cp, e, ha⟩ := h.arms
  have hl : InLies w y.1 ao := ⟨h.op, h.a, h.b, ha⟩
  rw [e]
  refine (enc_as (cp := cp) hl y.1.arms.length rfl (by have := h.few; omega)).mono ?_
  rintro e w' ⟨v, he, hr, -, hb⟩
  obtain ⟨a, c, rfl, -⟩ := hr.shape
  exact ⟨a, c, by rw [he, if_pos hok], hr, hb⟩
theorem yes_dec {w : World} {y : In × Value} (ho : y.1.op < 256) (hok : y.1.ok = true) {a : Option Addr} {c : Nat} (hr : Rw w 5 1 (.slice a y.1.enc.length c) y.1.enc.length (nums y.1.enc)) : Calls Tryd.prog 17 #[.slice a y.1.enc.length c, .int .i64 0] w (DcG w (y.1.op : Int) y.1.a y.1.b y.1.arms.length y.1.enc.length (armC y.1.arms)) := by
  obtain ⟨a', c', e', hl⟩ := row_lies hr (enc_byte y.1 ho) (by have := enc_small y.1; omega)
  cases e'
  have hd := dec_enc y.1 hok y.1.enc [] 0 (by simp)
  have hc := dec_as (cap := c) hl rfl 0
  rw [show ((0 : Nat) : Int) = 0 from rfl] at hd
  rw [hd] at hc
  refine hc.mono ?_
  rintro e w' ⟨v, he, h1, -, h3⟩
  obtain ⟨a1, c1, rfl, -⟩ := h1.shape
  refine ⟨a1, c1, ?_, h1, h3⟩
  rw [he, enc_length, Nat.zero_add]
  rfl
theorem yes_same {w : World} {y : In × Value} (h : ItAt w y) {a : Option Addr} {c : Nat} (hr : Rw w 44 2 (.slice a y.1.arms.length c) y.1.arms.length (armC y.1.arms)) : Calls Tryd.prog 18 #[.agg #[.int .u8 (y.1.op : Int), .int .i64 y.1.a, .int .i64 y.1.b, .slice a y.1.arms.length c], .agg #[.int .u8 (y.1.op : Int), .int .i64 y.1.a, .int .i64 y.1.b, y.2]] w (RT w) := by
  obtain ⟨ao, cp, e, ha⟩ := h.arms
  obtain ⟨a', c', e', hl⟩ := rw_armLies hr ha.nums
  cases e'
  rw [e]
  exact sameIns_eq (x := y.1) rfl hl ha (by have := h.few; omega)
theorem v1 (w : World) : Calls Tryd.prog 19 #[.string ⟨#[11, 4]⟩, .int .i64 0, .int .i64 120] w (RT w) := wr0 w [11, 4] 0 120 _ (by decide) (by decide) (by rfl) (by rfl)
theorem v2 (w : World) : Calls Tryd.prog 19 #[.string ⟨#[11]⟩, .int .i64 0, .int .i64 10] w (RT w) := wr0 w [11] 0 10 _ (by decide) (by decide) (by rfl) (by rfl)
theorem v3 (w : World) : Calls Tryd.prog 19 #[.string ⟨#[2, 1]⟩, .int .i64 0, .int .i64 10] w (RT w) := wr0 w [2, 1] 0 10 _ (by decide) (by decide) (by rfl) (by rfl)
theorem v4 (w : World) : Calls Tryd.prog 19 #[.string ⟨#[53]⟩, .int .i64 0, .int .i64 120] w (RT w) := wr0 w [53] 0 120 _ (by decide) (by decide) (by rfl) (by rfl)
theorem v5 (w : World) : Calls Tryd.prog 19 #[.string ⟨#[]⟩, .int .i64 0, .int .i64 2] w (RT w) := wr0 w [] 0 2 _ (by decide) (by decide) (by rfl) (by rfl)
theorem v6 (w : World) : Calls Tryd.prog 19 #[.string ⟨#[4]⟩, .int .i64 (-1), .int .i64 2] w (RT w) := wr0 w [4] (-1) 2 _ (by decide) (by decide) (by rfl) (by rfl)
theorem v7 (w : World) : Calls Tryd.prog 19 #[.string ⟨#[4]⟩, .int .i64 1, .int .i64 2] w (RT w) := wr0 w [4] 1 2 _ (by decide) (by decide) (by rfl) (by rfl)
theorem v8 (w : World) : Calls Tryd.prog 19 #[.string ⟨#[0]⟩, .int .i64 0, .int .i64 120] w (RT w) := wr0 w [0] 0 120 _ (by decide) (by decide) (by rfl) (by rfl)
theorem v9 (w : World) : Calls Tryd.prog 19 #[.string ⟨#[29, 4]⟩, .int .i64 0, .int .i64 120] w (RT w) := wr0 w [29, 4] 0 120 _ (by decide) (by decide) (by rfl) (by rfl)
theorem v10 (w : World) : Calls Tryd.prog 19 #[.string ⟨#[29, 3]⟩, .int .i64 0, .int .i64 10] w (RT w) := wr0 w [29, 3] 0 10 _ (by decide) (by decide) (by rfl) (by rfl)
theorem v11 (w : World) : Calls Tryd.prog 19 #[.string ⟨#[49, 1, 1, 0, 128, 0, 0, 0, 0, 0, 0, 0]⟩, .int .i64 0, .int .i64 120] w (RT w) := wr0 w [49, 1, 1, 0, 128, 0, 0, 0, 0, 0, 0, 0] 0 120 _ (by decide) (by decide) (by rfl) (by rfl)
theorem v12 (w : World) : Calls Tryd.prog 19 #[.string ⟨#[49, 1, 255]⟩, .int .i64 0, .int .i64 10] w (RT w) := wr0 w [49, 1, 255] 0 10 _ (by decide) (by decide) (by rfl) (by rfl)
/-- The module of the examples. -/
def kM (gF gT : Nat) : MoP := ⟨[⟨⟨6, ⟨#[]⟩, [⟨⟨#[97]⟩, 1⟩, ⟨⟨#[98]⟩, 5⟩], 0, 0⟩, some ⟨gF, 0, none⟩, 2⟩, ⟨⟨8, ⟨#[]⟩, [], 5, 0⟩, none, 0⟩, ⟨⟨7, ⟨#[]⟩, [], 4, 3⟩, none, 0⟩], some ⟨gT, 0, none⟩, 3, [], none, 0, [], none, 0⟩
theorem ty_lit {w : World} (t : Ty) (fa : Option Addr) (fc : Nat) (hr : RowAt w fa 2 t.fields.length (flF t.fields)) (h : t.kind < 256 ∧ t.name.size ≤ big ∧ (N64 t.elem ∧ N64 t.len) ∧ (∀ y ∈ t.fields, y.name.size ≤ big ∧ N64 y.typ) ∧ t.fields.length ≤ big) (h1 : fa = none → fc = 0) (h2 : t.fields.length ≤ fc) (h3 : fc ≤ 100) : TyIn w ⟨t, fa, fc⟩ := ⟨hr, h.1, h.2.1, h.2.2.1.1, h.2.2.1.2, h.2.2.2.1, h1, h2, h.2.2.2.2, by show fc ≤ maxLen; unfold maxLen; omega⟩
theorem kM_in {w : World} {gF gT : Nat} (hF : Own w gF #[.string ⟨#[97]⟩, .int .i64 1, .string ⟨#[98]⟩, .int .i64 5] 54) (hT : Own w gT #[.int .u8 6, .string ⟨#[]⟩, .slice (some ⟨gF, 0, none⟩) 2 2, .int .i64 0, .int .i64 0, .int .u8 8, .string ⟨#[]⟩, .slice none 0 0, .int .i64 5, .int .i64 0, .int .u8 7, .string ⟨#[]⟩, .slice none 0 0, .int .i64 4, .int .i64 3] 57) : MoIn w (kM gF gT) := by
  have h0 : ∀ f, RowAt w none 2 0 f := fun f => .inl rfl
  refine ⟨.inr ⟨gT, 0, rfl, fun i hi d hd => ?_⟩, .inl rfl, .inl rfl, ?_, by simp [kM], by simp [kM], by simp [kM], by simp [kM], by simp [kM, big], by simp [kM, maxLen], by simp [kM], by simp [kM], by simp [kM, big], by simp [kM, maxLen], by simp [kM], by simp [kM], by simp [kM, big], by simp [kM, maxLen]⟩
  · have hi3 : i < 3 := hi
    have e : ∀ j, j < 15 → w.cell? ⟨gT, j, none⟩ = (#[.int .u8 6, .string ⟨#[]⟩, .slice (some ⟨gF, 0, none⟩) 2 2, .int .i64 0, .int .i64 0, .int .u8 8, .string ⟨#[]⟩, .slice none 0 0, .int .i64 5, .int .i64 0, .int .u8 7, .string ⟨#[]⟩, .slice none 0 0, .int .i64 4, .int .i64 3] : Array Value)[j]? := fun j _ => hT.cell j
    rw [Nat.zero_add, e _ (by omega)]
    rcases (by omega : i = 0 ∨ i = 1 ∨ i = 2) with rfl | rfl | rfl <;> rcases (by omega : d = 0 ∨ d = 1 ∨ d = 2 ∨ d = 3 ∨ d = 4) with rfl | rfl | rfl | rfl | rfl <;> rfl
  · simp only [kM, List.forall_mem_cons]
    refine ⟨ty_lit _ _ _ (.inr ⟨gF, 0, rfl, fun i hi d hd => ?_⟩) (by unfold N64 big; decide) (by simp) (by decide) (by decide), ty_lit _ _ _ (.inl rfl) (by unfold N64 big; decide) (by simp) (by decide) (by decide), ty_lit _ _ _ (.inl rfl) (by unfold N64 big; decide) (by simp) (by decide) (by decide), by simp⟩
    have hi2 : i < 2 := hi
    have e : ∀ j, j < 4 → w.cell? ⟨gF, j, none⟩ = (#[.string ⟨#[97]⟩, .int .i64 1, .string ⟨#[98]⟩, .int .i64 5] : Array Value)[j]? := fun j _ => hF.cell j
    rw [Nat.zero_add, e _ (by omega)]
    rcases (by omega : i = 0 ∨ i = 1) with rfl | rfl <;> rcases (by omega : d = 0 ∨ d = 1) with rfl | rfl <;> rfl
theorem kM_small (gF gT : Nat) : Small (kM gF gT) 100000 := ⟨by simp [kM], by simp [kM], by simp [kM], by simp [kM], by simp [kM]⟩
def TK (w : World) (n1 n2 : Nat) (l1 l2 : List Int) (er : Int) (e : Ending) (w' : World) : Prop := ∃ a1 c1 a2 c2, e = .returned (.tuple #[.slice a1 n1 c1, .slice a2 n2 c2, .int .i64 er]) ∧ Rw w' 3 1 (.slice a1 n1 c1) n1 (intV l1) ∧ Rw w' 3 1 (.slice a2 n2 c2) n2 (intV l2) ∧ Below w.heap.size w w'
theorem k_takes {w : World} {gF gT : Nat} (hm : MoIn w (kM gF gT)) {y : In × Value} (h : ItAt w y) {n1 n2 er : Nat} {l1 l2 : List Int} (ht : takM (kM gF gT) y.1 = ((l1, l2), er)) (e1 : l1.length = n1) (e2 : l2.length = n2) : Calls Tryd.prog 10 #[.agg #[.int .u8 (y.1.op : Int), .int .i64 y.1.a, .int .i64 y.1.b, y.2], .agg #[.slice (some ⟨gT, 0, none⟩) 3 3, .slice none 0 0, .slice none 0 0]] w (TK w n1 n2 l1 l2 (er : Int)) := by
  obtain ⟨ao, cp, e, ha⟩ := h.arms
  have hl : InLies w y.1 ao := ⟨h.op, h.a, h.b, ha⟩
  have hc := takes_as hm (kM_small _ _) (cp := cp) hl y.1.arms.length rfl (by have := h.few; omega)
  rw [ht] at hc
  rw [e]
  subst e1 e2
  refine hc.mono ?_
  rintro e w' ⟨ta, tc, pa, pc, he, h1, h2, h3⟩
  exact ⟨ta, tc, pa, pc, he, h1.row, h2.row, h3⟩
theorem none_takes : ∀ y ∈ nonePs, ∀ gF gT, takM (kM gF gT) y.1 = (([], []), 2) := by
  simp only [nonePs, List.forall_mem_cons]
  refine ⟨?_, ?_, ?_, ?_, ?_, ?_, ?_, ?_, ?_, ?_, ?_, ?_, ?_, ?_, by simp⟩
  all_goals exact fun gF gT => rfl
theorem k_same {w : World} {l : List Int} {a : Option Addr} {n c g : Nat} (hn : n = l.length) (hr : Rw w 3 1 (.slice a n c) n (intV l)) (ho : Own w g (intV l).toArray 3) (hm : n ≤ 100) : Calls Tryd.prog 11 #[.slice a n c, .slice (some ⟨g, 0, none⟩) n n] w (RT w) := by
  subst hn
  refine sameInts_as rfl rfl (rw_rowAt hr (Nat.le_refl _) (fun i hi d hd => intV_get l i hi d hd)) (.inr ⟨g, 0, rfl, fun i hi d hd => ?_⟩) (by unfold big; omega) true (by simp)
  have := intV_get l i hi d hd
  rw [Nat.zero_add]
  exact (ho.cell _).trans (by simpa using this)
end Go.Proofs.YtjfdlphkmpkjdaaDoor
