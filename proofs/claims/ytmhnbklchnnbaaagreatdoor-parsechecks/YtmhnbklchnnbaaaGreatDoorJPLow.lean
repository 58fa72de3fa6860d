import Derived.Test.YtmhnbklchnnbaaaGreatDoorJXMid
import Derived.Test.YtmhnbklchnnbaaaGreatDoorQ4
import Derived.Below
import Derived.Lib.SmallJoins
set_option maxHeartbeats 1000000
set_option maxRecDepth 100000
namespace Go.Proofs.YtmhnbklchnnbaaaGreatDoor
open Go.RowKit
set_option linter.unusedVariables false
def Own (w : World) (g : Nat) (cs : Array Value) (t : TypeId) : Prop := w.heap[g]? = some (Obj.cells cs t (0, 0))
theorem Own.lt {w : World} {g : Nat} {cs : Array Value} {t : TypeId} (h : Own w g cs t) : g < w.heap.size := (Array.getElem?_eq_some_iff.1 h).1
theorem Own.new (w : World) (cs : Array Value) (t : TypeId) : Own (w.alloc (.cells cs t)) w.heap.size cs t := heap_alloc_new w _
theorem Own.alloc {w : World} {g : Nat} {cs : Array Value} {t : TypeId} (h : Own w g cs t) (o : Obj) : Own (w.alloc o) g cs t := (Below.heap_alloc w o g h.lt).trans h
theorem Own.drew {w : World} {g : Nat} {cs : Array Value} {t : TypeId} (h : Own w g cs t) : Own w.drew g cs t := h
theorem Own.other {w : World} {g g' i : Nat} {cs : Array Value} {t : TypeId} (h : Own w g cs t) (hne : g ≠ g') (u : Value) : Own (w.setCell ⟨g', i, none⟩ u) g cs t := (Below.heap_setCell w ⟨g', i, none⟩ u g hne).trans h
theorem Own.set5 {w : World} {g : Nat} {a0 a1 a2 a3 a4 : Value} {t : TypeId} (h : Own w g #[a0, a1, a2, a3, a4] t) (b0 b1 b2 b3 b4 : Value) :
    Own (((((w.setCell ⟨g, 0, none⟩ b0).setCell ⟨g, 1, none⟩ b1).setCell ⟨g, 2, none⟩ b2).setCell ⟨g, 3, none⟩ b3).setCell ⟨g, 4, none⟩ b4) g #[b0, b1, b2, b3, b4] t := set5_block _ _ _ _ _ _ _ _ _ _ _ _ _ _ h
theorem Own.set {w : World} {g : Nat} {cs : Array Value} {t : TypeId} (h : Own w g cs t) (i : Nat) (u : Value) : Own (w.setCell ⟨g, i, none⟩ u) g (cs.setIfInBounds i u) t := heap_set w g i _ t (0, 0) u h
theorem Own.five {w : World} {g : Nat} {a0 a1 a2 a3 a4 : Value} {t : TypeId} (h : Own w g #[a0, a1, a2, a3, a4] t) : w.cell? ⟨g, 0, none⟩ = some a0 ∧ w.cell? ⟨g, 1, none⟩ = some a1 ∧ w.cell? ⟨g, 2, none⟩ = some a2 ∧ w.cell? ⟨g, 3, none⟩ = some a3 ∧ w.cell? ⟨g, 4, none⟩ = some a4 ∧ ∀ j, w.frozen? ⟨g, j, none⟩ = false :=
  ⟨cell_of_row _ g 0 _ _ _ h, cell_of_row _ g 1 _ _ _ h, cell_of_row _ g 2 _ _ _ h, cell_of_row _ g 3 _ _ _ h, cell_of_row _ g 4 _ _ _ h, fun j => by unfold Own at h; simp [World.frozen?, h]⟩
def Kp (r : Nat) (w w' : World) : Prop := w.grownBy w' (some r)
theorem Kp.refl (r : Nat) (w : World) : Kp r w w := ⟨rfl, rfl, rfl, Nat.le_refl _, fun _ _ _ => rfl⟩
theorem Kp.trans {r : Nat} {a b c : World} (h : Kp r a b) (k : Kp r b c) : Kp r a c :=
  ⟨k.os.trans h.os, k.tape.trans h.tape, k.output.trans h.output, Nat.le_trans h.size k.size, fun i hi hn => (k.block i (Nat.lt_of_lt_of_le hi h.size) hn).trans (h.block i hi hn)⟩
theorem Kp.of {r : Nat} {w w' : World} (h : Below w.heap.size w w') : Kp r w w' := ⟨h.os, h.tape, h.output, h.size, fun k hk _ => h.block k hk⟩
theorem Kp.alloc {r : Nat} {a w : World} (h : Kp r a w) (o : Obj) : Kp r a (w.alloc o) := h.trans (Kp.of ((Below.refl _ _).alloc (Nat.le_refl _) o))
theorem Kp.drew {r : Nat} {a w : World} (h : Kp r a w) : Kp r a w.drew := ⟨h.os, h.tape, h.output, h.size, h.block⟩
theorem Kp.set {r : Nat} {a w : World} (h : Kp r a w) {g : Nat} (hg : a.heap.size ≤ g ∨ g = r) (i : Nat) (u : Value) : Kp r a (w.setCell ⟨g, i, none⟩ u) :=
  ⟨h.os, h.tape, h.output, Nat.le_trans h.size (by simp [World.setCell]), fun k hk hn => (Below.heap_setCell w ⟨g, i, none⟩ u k (by rcases hg with hg | hg; (show k ≠ g); omega; (show k ≠ g); intro e; exact hn (by rw [e, hg]))).trans (h.block k hk hn)⟩
theorem Kp.set5 {r : Nat} {a w : World} (h : Kp r a w) {g : Nat} (hg : a.heap.size ≤ g ∨ g = r) (b0 b1 b2 b3 b4 : Value) :
    Kp r a (((((w.setCell ⟨g, 0, none⟩ b0).setCell ⟨g, 1, none⟩ b1).setCell ⟨g, 2, none⟩ b2).setCell ⟨g, 3, none⟩ b3).setCell ⟨g, 4, none⟩ b4) := ((((h.set hg 0 b0).set hg 1 b1).set hg 2 b2).set hg 3 b3).set hg 4 b4
theorem Kp.grown {r : Nat} {a w w' : World} {row : Option Nat} (h : Kp r a w) (hg : w.grownBy w' row) (hr : ∀ k, row = some k → a.heap.size ≤ k) : Kp r a w' :=
  ⟨hg.os.trans h.os, hg.tape.trans h.tape, hg.output.trans h.output, Nat.le_trans h.size hg.size, fun k hk hn => (hg.block k (Nat.lt_of_lt_of_le hk h.size) (fun e => by have := hr k e.symm; omega)).trans (h.block k hk hn)⟩
theorem Own.kp {w w' : World} {g r : Nat} {cs : Array Value} {t : TypeId} (h : Own w g cs t) (hk : Kp r w w') (hne : g ≠ r) : Own w' g cs t := (hk.block g h.lt (by intro e; exact hne (Option.some.inj e))).trans h
theorem Own.below {w w' : World} {g : Nat} {cs : Array Value} {t : TypeId} (h : Own w g cs t) (hk : Below w.heap.size w w') : Own w' g cs t := (hk.block g h.lt).trans h
theorem Below.kp {r : Nat} {w w1 w' : World} (hb : Below w.heap.size w w1) (hr : w.heap.size ≤ r) (h : Kp r w1 w') : Below w.heap.size w w' :=
  hb.trans ⟨h.os, h.tape, h.output, h.size, fun k hk => h.block k (Nat.lt_of_lt_of_le hk hb.size) (by intro e; have := Option.some.inj e; omega)⟩
def TokIs (t : Tok) (k : Int) (b : ByteArray) (n a e : Int) : Prop := k = t.1 ∧ b = strN t.2.1 ∧ n = t.2.2.1 ∧ a = t.2.2.2.1 ∧ e = t.2.2.2.2
theorem tokIs (t : Tok) : ∃ k b n a e, TokIs t k b n a e := ⟨_, _, _, _, _, rfl, rfl, rfl, rfl, rfl⟩
def goodT (t : Tok) : Prop := (∀ c ∈ t.2.1, c < 256) ∧ t.2.1.length ≤ 1048576
def ToksIn (w : World) (r : Nat) (v : Value) (ts : List Tok) : Prop := ∃ ao cap, v = .slice ao ts.length cap ∧ ts.length ≤ cap ∧ cap ≤ 9223372036854775807 ∧ ts.length ≤ 1048576 ∧ (∀ t ∈ ts, goodT t) ∧
  (ts = [] ∨ ∃ g o cs fr, ao = some ⟨g, o, none⟩ ∧ g < r ∧ w.heap[g]? = some (.cells cs 77 fr) ∧ ∀ j, j < ts.length * 5 → cs[o + j]? = (rowT ts)[j]?)
def RdAt (w : World) (r E d : Nat) (s : St) : Prop := ∃ v, Own w r #[v, .int .i64 (E : Int), .int .i64 (d : Int), .int .i64 (s.wrong : Int), .int .i64 (s.place : Int)] 67 ∧ ToksIn w r v s.rest
theorem rowT_get5 (ts : List Tok) (k j : Nat) (hk : k < ts.length) (hj : j < 5) : (rowT ts)[k * 5 + j]? = (cellsT ts[k])[j]? := by
  induction ts generalizing k with
  | nil => simp at hk
  | cons t r ih =>
    have e : rowT (t :: r) = cellsT t ++ rowT r := by simp [rowT]
    have hl : (cellsT t).length = 5 := rfl
    cases k with
    | zero => rw [e, Nat.zero_mul, Nat.zero_add, List.getElem?_append_left (by omega)]; rfl
    | succ k =>
      rw [e, List.getElem?_append_right (by omega), hl, show (k + 1) * 5 + j - 5 = k * 5 + j by omega, ih k (by simpa using hk)]; rfl
theorem toks_cells {w : World} {g o : Nat} {cs : Array Value} {fr : Nat × Nat} {ts : List Tok} (hg : w.heap[g]? = some (.cells cs 77 fr)) (h : ∀ j, j < ts.length * 5 → cs[o + j]? = (rowT ts)[j]?) (i : Nat) (hi : i < ts.length)
    {k : Int} {b : ByteArray} {n a e : Int} (ht : TokIs (ts.getD i default) k b n a e) :
    w.cell? ⟨g, o + i * 5, none⟩ = some (.int .u8 k) ∧ w.cell? ⟨g, o + i * 5 + 1, none⟩ = some (.string b) ∧ w.cell? ⟨g, o + i * 5 + 2, none⟩ = some (.int .u64 n) ∧ w.cell? ⟨g, o + i * 5 + 3, none⟩ = some (.int .i64 a) ∧ w.cell? ⟨g, o + i * 5 + 4, none⟩ = some (.int .i64 e) := by
  have e1 : ts.getD i default = ts[i] := by rw [List.getD_eq_getElem?_getD, List.getElem?_eq_getElem hi]; rfl
  rw [e1] at ht
  obtain ⟨rfl, rfl, rfl, rfl, rfl⟩ := ht
  have key : ∀ j, j < 5 → w.cell? ⟨g, o + i * 5 + j, none⟩ = (cellsT ts[i])[j]? := by
    intro j hj
    rw [← rowT_get5 ts i j hi hj, ← h _ (by omega), Nat.add_assoc]
    exact cell_of_row _ _ _ _ _ _ hg
  exact ⟨key 0 (by omega), key 1 (by omega), key 2 (by omega), key 3 (by omega), key 4 (by omega)⟩
theorem ToksIn.on {w w' : World} {r : Nat} {v : Value} {ts : List Tok} (h : ToksIn w r v ts) (hk : ∀ g, g < r → w'.heap[g]? = w.heap[g]?) : ToksIn w' r v ts := by
  obtain ⟨ao, cap, rfl, h1, h2, h3, h5, h4⟩ := h
  refine ⟨ao, cap, rfl, h1, h2, h3, h5, ?_⟩
  rcases h4 with h4 | ⟨g, o, cs, fr, rfl, hr, hg, hc⟩
  · exact .inl h4
  · exact .inr ⟨g, o, cs, fr, rfl, hr, (hk g hr).trans hg, hc⟩
theorem RdAt.below {w w' : World} {r E d : Nat} {s : St} (h : RdAt w r E d s) (hb : Below w.heap.size w w') : RdAt w' r E d s := by
  obtain ⟨v, h1, h2⟩ := h
  have := h1.lt
  exact ⟨v, h1.below hb, h2.on fun g hg => hb.block g (by omega)⟩
theorem RdAt.alloc {w : World} {r E d : Nat} {s : St} (h : RdAt w r E d s) (o : Obj) : RdAt (w.alloc o) r E d s := h.below ((Below.refl _ _).alloc (Nat.le_refl _) o)
theorem RdAt.drew {w : World} {r E d : Nat} {s : St} (h : RdAt w r E d s) : RdAt w.drew r E d s := h
theorem RdAt.set {w : World} {r E d g i : Nat} {s : St} (h : RdAt w r E d s) (hg : r < g) (u : Value) : RdAt (w.setCell ⟨g, i, none⟩ u) r E d s := by
  obtain ⟨v, k1, k2⟩ := h
  exact ⟨v, k1.other (by omega) u, k2.on fun b hb => Below.heap_setCell w ⟨g, i, none⟩ u b (by show b ≠ g; omega)⟩
theorem RdAt.set5 {w : World} {r E d g : Nat} {s : St} (h : RdAt w r E d s) (hg : r < g) (b0 b1 b2 b3 b4 : Value) :
    RdAt (((((w.setCell ⟨g, 0, none⟩ b0).setCell ⟨g, 1, none⟩ b1).setCell ⟨g, 2, none⟩ b2).setCell ⟨g, 3, none⟩ b3).setCell ⟨g, 4, none⟩ b4) r E d s := ((((h.set hg b0).set hg b1).set hg b2).set hg b3).set hg b4
theorem RdAt.grown {w w' : World} {r E d : Nat} {s : St} {row : Option Nat} (h : RdAt w r E d s) (hg : w.grownBy w' row) (hr : ∀ k, row = some k → r < k) : RdAt w' r E d s := by
  obtain ⟨v, k1, k2⟩ := h
  have := k1.lt
  exact ⟨v, (hg.block r k1.lt (fun e => by have := hr r e.symm; omega)).trans k1, k2.on fun b hb => hg.block b (by omega) (fun e => by have := hr b e.symm; omega)⟩
theorem RdAt.lt {w : World} {r E d : Nat} {s : St} (h : RdAt w r E d s) : r < w.heap.size := by obtain ⟨v, h1, _⟩ := h; exact h1.lt
@[go_sem] theorem tokF0 (k : Int) (b : ByteArray) (n a e : Int) (w : World) : (Instr.field 77 (.agg #[.int .u8 k, .string b, .int .u64 n, .int .i64 a, .int .i64 e]) 0).run Tryz.prog w = .ok (.int .u8 k) w := by kernel_rfl
@[go_sem] theorem tokF1 (k : Int) (b : ByteArray) (n a e : Int) (w : World) : (Instr.field 77 (.agg #[.int .u8 k, .string b, .int .u64 n, .int .i64 a, .int .i64 e]) 1).run Tryz.prog w = .ok (.string b) w := by kernel_rfl
@[go_sem] theorem tokF2 (k : Int) (b : ByteArray) (n a e : Int) (w : World) : (Instr.field 77 (.agg #[.int .u8 k, .string b, .int .u64 n, .int .i64 a, .int .i64 e]) 2).run Tryz.prog w = .ok (.int .u64 n) w := by kernel_rfl
@[go_sem] theorem tokF3 (k : Int) (b : ByteArray) (n a e : Int) (w : World) : (Instr.field 77 (.agg #[.int .u8 k, .string b, .int .u64 n, .int .i64 a, .int .i64 e]) 3).run Tryz.prog w = .ok (.int .i64 a) w := by kernel_rfl
theorem pahead_as {w : World} {r E d : Nat} {s : St} (HR : Hid (RdAt w r E d s)) (hE : E ≤ 1048576) (x : Int) (i : Nat) (hx : x = i) (hi : i ≤ 4) {k : Int} {b : ByteArray} {n a e : Int} (ht : TokIs (aheadT E s i) k b n a e) :
    Calls Tryz.prog 78 #[.pointer (some ⟨r, 0, none⟩), .int .i64 x] w fun en w' => en = .returned (.agg #[.int .u8 k, .string b, .int .u64 n, .int .i64 a, .int .i64 e]) ∧ Below w.heap.size w w' := by
  obtain ⟨v, h1, ao, cap, rfl, hlc, hcap, hlen, hgood, h4⟩ := HR.out
  obtain ⟨c0, c1, _, _, _, _⟩ := h1.five
  by_cases hlt : i < s.rest.length
  · rcases h4 with h4 | ⟨g, o, cs, fr, rfl, hgr, hg, hc⟩
    · rw [h4] at hlt; simp at hlt
    · have ht2 : TokIs (s.rest.getD i default) k b n a e := by
        have : aheadT E s i = s.rest.getD i default := by unfold aheadT; rw [List.getD_eq_getElem?_getD, List.getD_eq_getElem?_getD, List.getElem?_eq_getElem hlt]; rfl
        rw [← this]; exact ht
      obtain ⟨a0, a1, a2, a3, a4⟩ := toks_cells hg hc i hlt ht2
      obtain ⟨m, hm⟩ : ∃ m, Hid (s.rest.length = m) := ⟨_, rfl⟩
      rw [hm.out] at c0 hlt
      have hgb : g < w.heap.size := (Array.getElem?_eq_some_iff.1 hg).1
      have hrb := h1.lt
      clear h1 hg hc ht ht2 hgood
      go_enter Tryz.func78, Tryz.ntmps78
      go_wp2
      refine bodyPost_cell1 (g := w.heap.size) (t := 77) rfl rfl rfl (heap_alloc_new w _) Tryz.underlying77 rfl (by kernel_rfl) ?_
      exact ⟨rfl, (Below.refl _ _).alloc (Nat.le_refl _) _⟩
  · have ht2 : aheadT E s i = (0, [], 0, E, 0) := by unfold aheadT; rw [List.getD_eq_getElem?_getD, List.getElem?_eq_none (by omega)]; rfl
    rw [ht2] at ht
    obtain ⟨rfl, rfl, rfl, rfl, rfl⟩ := ht
    obtain ⟨m, hm⟩ : ∃ m, Hid (s.rest.length = m) := ⟨_, rfl⟩
    rw [hm.out] at c0 hlt
    have hrb := h1.lt
    clear h1 h4 hgood ht2
    go_enter Tryz.func78, Tryz.ntmps78
    go_wp2
    refine bodyPost_cell1 (g := w.heap.size) (t := 77) rfl rfl rfl (heap_alloc_new w _) Tryz.underlying77 rfl (by kernel_rfl) ?_
    exact ⟨rfl, (Below.refl _ _).alloc (Nat.le_refl _) _⟩
theorem pnext_as {w : World} {r E d : Nat} {s : St} (HR : Hid (RdAt w r E d s)) (hE : E ≤ 1048576) {k : Int} {b : ByteArray} {n a e : Int} (HT : Hid (TokIs (nxt E s) k b n a e)) :
    Calls Tryz.prog 59 #[.pointer (some ⟨r, 0, none⟩)] w fun en w' => en = .returned (.agg #[.int .u8 k, .string b, .int .u64 n, .int .i64 a, .int .i64 e]) ∧ Below w.heap.size w w' := by
  go_enter Tryz.func59, Tryz.ntmps59
  go_wp2_with fail
  refine (pahead_as (HR.out.alloc _) hE 0 0 rfl (by omega) HT.out).mono ?_
  rintro en w1 ⟨rfl, hb⟩
  have o := (Own.new w _ _).below hb
  obtain ⟨c0, c1, c2, c3, c4, f0⟩ := o.five
  go_wp2
  refine bodyPost_cell1 (t := 77) rfl rfl rfl (o.set5 _ _ _ _ _) Tryz.underlying77 rfl (by kernel_rfl) ?_
  exact ⟨rfl, set5_below (((Below.refl _ _).alloc (Nat.le_refl _) _).trans (hb.mono (by simp))) (Nat.le_refl _)⟩
theorem toks_tail {w : World} {r : Nat} {v : Value} {t : Tok} {ts : List Tok} (h : ToksIn w r v (t :: ts)) : ∃ g o cap, v = .slice (some ⟨g, o, none⟩) (ts.length + 1) cap ∧ ts.length + 1 ≤ cap ∧ cap ≤ 9223372036854775807 ∧ ts.length + 1 ≤ 1048576 ∧ ToksIn w r (.slice (if cap = 1 then some ⟨g, o, none⟩ else some ⟨g, o + 5, none⟩) ts.length (cap - 1)) ts := by
  obtain ⟨ao, cap, rfl, h1, h2, h3, h5, h4⟩ := h
  rcases h4 with h4 | ⟨g, o, cs, fr, rfl, hr, hg, hc⟩
  · cases h4
  · refine ⟨g, o, cap, rfl, h1, h2, h3, _, cap - 1, rfl, ?_, ?_, ?_, fun x hx => h5 x (List.mem_cons_of_mem _ hx), ?_⟩
    · simp only [List.length_cons] at h1; omega
    · omega
    · simp only [List.length_cons] at h3; omega
    · by_cases hcap : cap = 1
      · left
        simp only [List.length_cons] at h1
        exact List.eq_nil_of_length_eq_zero (by omega)
      · right
        rw [if_neg hcap]
        refine ⟨g, o + 5, cs, fr, rfl, hr, hg, fun j hj => ?_⟩
        have := hc (5 + j) (by simp only [List.length_cons]; omega)
        rw [show o + 5 + j = o + (5 + j) by omega, this]
        have e : rowT (t :: ts) = cellsT t ++ rowT ts := by simp [rowT]
        rw [e, List.getElem?_append_right (by show 5 ≤ 5 + j; omega)]
        show (rowT ts)[5 + j - 5]? = _
        rw [Nat.add_sub_cancel_left]
theorem RdAt.rest {w : World} {r E d : Nat} {s : St} (h : RdAt w r E d s) {u : Value} {ts : List Tok} (hu : ToksIn w r u ts) : RdAt (w.setCell ⟨r, 0, none⟩ u) r E d ⟨ts, s.wrong, s.place⟩ := by
  obtain ⟨v, k1, k2⟩ := h
  exact ⟨u, k1.set 0 u, hu.on fun b hb => Below.heap_setCell w ⟨r, 0, none⟩ u b (by show b ≠ r; omega)⟩
theorem ptake_as {w : World} {r E d : Nat} {s : St} (HR : Hid (RdAt w r E d s)) (hE : E ≤ 1048576) {k : Int} {b : ByteArray} {n a e : Int} (HT : Hid (TokIs (nxt E s) k b n a e)) :
    Calls Tryz.prog 61 #[.pointer (some ⟨r, 0, none⟩)] w fun en w' => en = .returned (.agg #[.int .u8 k, .string b, .int .u64 n, .int .i64 a, .int .i64 e]) ∧ RdAt w' r E d (popS s) ∧ Kp r w w' := by
  go_enter Tryz.func61, Tryz.ntmps61
  go_wp2_with fail
  refine (pnext_as (HR.out.alloc _) hE HT).mono ?_
  rintro en w1 ⟨rfl, hb⟩
  have hrd := (HR.out.alloc (.cells #[.int .u8 0, .string ⟨#[]⟩, .int .u64 0, .int .i64 0, .int .i64 0] 77)).below hb
  have hkp : Kp r w w1 := ((Kp.refl r w).alloc _).trans (Kp.of hb)
  obtain ⟨v, h1, h2⟩ := hrd
  have hs : w.heap.size < w1.heap.size := by have := hb.size; rw [World.size_alloc] at this; omega
  have hrl : r < w.heap.size := HR.out.lt
  have hr1 := h1.lt
  have o1 := (Own.new w _ _).below hb
  obtain ⟨e0, e1, e2, e3, e4, g0⟩ := o1.five
  cases hrest : s.rest with
  | nil =>
    rw [hrest] at h2
    have h2' := h2
    obtain ⟨ao, cap, rfl, hlc, hcap, hlen, hgood, h4⟩ := h2
    obtain ⟨c0, c1, c2, c3, c4, f0⟩ := h1.five
    simp only [List.length_nil] at c0
    have hP : popS s = ⟨[], s.wrong, s.place⟩ := by simp [popS, hrest]
    have HP : Hid (popS s = ⟨[], s.wrong, s.place⟩) := hP
    have hrd := RdAt.rest ⟨_, h1, by rw [hrest]; exact h2'⟩ h2'
    clear h1 h2' hP
    have hmin : min (1 : Int) 0 = 0 := by decide
    have hmn : (min (1 : Int) 0).toNat = 0 := by decide
    go_wp2_with fail
    go_region
    all_goals
      obtain ⟨w2, hw2⟩ : ∃ w2, w2 = ((w1.setCell ⟨r, 0, none⟩ (.slice ao 0 cap)).alloc (.cells #[.int .u8 k, .string b, .int .u64 n, .int .i64 a, .int .i64 e] 77)).drew := ⟨_, rfl⟩
      rw [← hw2]
      have q1 : Own w2 w.heap.size #[.int .u8 0, .string ⟨#[]⟩, .int .u64 0, .int .i64 0, .int .i64 0] 77 := by rw [hw2]; exact ((o1.other (by omega) _).alloc _).drew
      have q2 : Own w2 w1.heap.size #[.int .u8 k, .string b, .int .u64 n, .int .i64 a, .int .i64 e] 77 := by rw [hw2]; have := Own.new (w1.setCell ⟨r, 0, none⟩ (.slice ao 0 cap)) #[.int .u8 k, .string b, .int .u64 n, .int .i64 a, .int .i64 e] 77; rw [World.size_setCell] at this; exact this
      have q3 : RdAt w2 r E d (popS s) := by rw [hw2, HP.out]; exact (hrd.alloc _).drew
      have q4 : Kp r w w2 := by rw [hw2]; exact ((hkp.set (.inr rfl) 0 _).alloc _).drew
      clear hw2 hrd hkp o1 hb e0 e1 e2 e3 e4 g0 c0 c1 c2 c3 c4 f0
      obtain ⟨e0, e1, e2, e3, e4, g0⟩ := q1.five
      obtain ⟨c0, c1, c2, c3, c4, f0⟩ := q2.five
      go_wp2
      all_goals (refine bodyPost_cell1 (t := 77) rfl rfl rfl (q1.set5 _ _ _ _ _) Tryz.underlying77 rfl (by kernel_rfl) ?_; exact ⟨rfl, q3.set5 (by omega) _ _ _ _ _, q4.set5 (.inl (by omega)) _ _ _ _ _⟩)
  | cons t ts =>
    rw [hrest] at h2
    have h2' := h2
    obtain ⟨g, o, cap, rfl, hlc, hcap, hlen, h4⟩ := toks_tail h2
    obtain ⟨c0, c1, c2, c3, c4, f0⟩ := h1.five
    have hP : popS s = ⟨ts, s.wrong, s.place⟩ := by simp [popS, hrest]
    have HP : Hid (popS s = ⟨ts, s.wrong, s.place⟩) := hP
    have hrd := RdAt.rest ⟨_, h1, by rw [hrest]; exact h2'⟩ h4
    obtain ⟨m, hm⟩ : ∃ m, Hid (ts.length = m) := ⟨_, rfl⟩
    rw [hm.out] at c0 hlc hlen hrd
    have i1 : (1 : Int) ≤ (m : Int) + 1 := by omega
    clear h1 h2 h2' h4 hP
    have hmin : min (1 : Int) ((m : Int) + 1) = 1 := by omega
    have hmn : (min (1 : Int) ((m : Int) + 1)).toNat = 1 := by omega
    go_wp2_with fail
    go_region
    all_goals
      obtain ⟨w2, hw2⟩ : ∃ w2, w2 = ((w1.setCell ⟨r, 0, none⟩ (.slice (if cap = 1 then some ⟨g, o, none⟩ else some ⟨g, o + 5, none⟩) m (cap - 1))).alloc (.cells #[.int .u8 k, .string b, .int .u64 n, .int .i64 a, .int .i64 e] 77)).drew := ⟨_, rfl⟩
      rw [← hw2]
      have q1 : Own w2 w.heap.size #[.int .u8 0, .string ⟨#[]⟩, .int .u64 0, .int .i64 0, .int .i64 0] 77 := by rw [hw2]; exact ((o1.other (by omega) _).alloc _).drew
      have q2 : Own w2 w1.heap.size #[.int .u8 k, .string b, .int .u64 n, .int .i64 a, .int .i64 e] 77 := by rw [hw2]; have := Own.new (w1.setCell ⟨r, 0, none⟩ (.slice (if cap = 1 then some ⟨g, o, none⟩ else some ⟨g, o + 5, none⟩) m (cap - 1))) #[.int .u8 k, .string b, .int .u64 n, .int .i64 a, .int .i64 e] 77; rw [World.size_setCell] at this; exact this
      have q3 : RdAt w2 r E d (popS s) := by rw [hw2, HP.out]; exact (hrd.alloc _).drew
      have q4 : Kp r w w2 := by rw [hw2]; exact ((hkp.set (.inr rfl) 0 _).alloc _).drew
      clear hw2 hrd hkp o1 hb e0 e1 e2 e3 e4 g0 c0 c1 c2 c3 c4 f0
      obtain ⟨e0, e1, e2, e3, e4, g0⟩ := q1.five
      obtain ⟨c0, c1, c2, c3, c4, f0⟩ := q2.five
      go_wp2
      all_goals (refine bodyPost_cell1 (t := 77) rfl rfl rfl (q1.set5 _ _ _ _ _) Tryz.underlying77 rfl (by kernel_rfl) ?_; exact ⟨rfl, q3.set5 (by omega) _ _ _ _ _, q4.set5 (.inl (by omega)) _ _ _ _ _⟩)
theorem pdrop_as {w : World} {r E d : Nat} {s : St} (HR : Hid (RdAt w r E d s)) :
    Calls Tryz.prog 77 #[.pointer (some ⟨r, 0, none⟩)] w fun en w' => (∃ v, en = .returned v) ∧ RdAt w' r E d ⟨[], s.wrong, s.place⟩ ∧ Kp r w w' := by
  have hrd : RdAt (w.setCell ⟨r, 0, none⟩ (.slice none 0 0)) r E d ⟨[], s.wrong, s.place⟩ := HR.out.rest ⟨none, 0, rfl, by simp, by omega, by simp, by simp, .inl rfl⟩
  obtain ⟨v, h1, h2⟩ := HR.out
  obtain ⟨c0, c1, c2, c3, c4, f0⟩ := h1.five
  go_enter Tryz.func77, Tryz.ntmps77
  go_wp2
  refine bodyPost_end (results_none rfl _ _ _) rfl ?_
  exact ⟨⟨_, rfl⟩, hrd, (Kp.refl r w).set (.inr rfl) 0 _⟩
theorem pdone_as {w : World} {r E d : Nat} {s : St} (HR : Hid (RdAt w r E d s)) :
    Calls Tryz.prog 47 #[.pointer (some ⟨r, 0, none⟩)] w fun en w' => en = .returned (.bool s.rest.isEmpty) ∧ w = w' := by
  obtain ⟨v, h1, ao, cap, rfl, hlc, hcap, hlen, hgood, h4⟩ := HR.out
  obtain ⟨c0, c1, c2, c3, c4, f0⟩ := h1.five
  have HB : Hid (s.rest.isEmpty = decide ((s.rest.length : Int) = 0)) := by
    unfold Hid
    cases s.rest <;> simp <;> omega
  obtain ⟨m, hm⟩ : ∃ m, Hid (s.rest.length = m) := ⟨_, rfl⟩
  rw [hm.out] at c0
  go_enter Tryz.func47, Tryz.ntmps47
  go_wp2
  go_ret
  refine ⟨ret_bool ?_, rfl⟩
  rw [HB.out, hm.out, Bool.eq_iff_iff]
  simp
def StrsIn (w : World) (b : Nat) (xs : List ByteArray) : Prop := Own w b (xs.map Value.string).toArray 9
theorem StrsIn.cell {w : World} {b : Nat} {xs : List ByteArray} (h : StrsIn w b xs) (i : Nat) (x : ByteArray) (hx : xs[i]? = some x) : w.cell? ⟨b, i, none⟩ = some (.string x) := by
  refine (cell_of_row _ _ i _ _ _ h).trans ?_
  rw [List.getElem?_toArray, List.getElem?_map, hx]; rfl
def IndexRel (xs : List ByteArray) (s : ByteArray) (i : Value) : Prop := ∃ k : Nat, k ≤ xs.length ∧ i = .int .i64 k ∧ ∀ j x, j < k → xs[j]? = some x → (s.toList == x.toList) = false
theorem slIndex_as (w : World) (b : Nat) (xs : List ByteArray) (s : ByteArray) (hs : StrsIn w b xs) (n : Nat) (hn : xs.length = n) (hl : n ≤ 100) (res : Bool) (hr : (xs.any fun x => s.toList == x.toList) = res) :
    Calls Tryz.prog 95 #[.slice (some ⟨b, 0, none⟩) n n, .string s] w fun en w' => (∃ z : Int, en = .returned (.int .i64 z) ∧ decide (0 ≤ z) = res) ∧ w = w' := by
  have HRES : Hid ((xs.any fun x => s.toList == x.toList) = res) := hr
  have HN : Hid (xs.length = n) := hn
  clear hr hn
  go_enter Tryz.func95, Tryz.ntmps95
  go_wp2
  go_loop [8] (fun i => IndexRel xs s i) (fun i => n - (intOf i).toNat)
  case atStart => exact ⟨0, by omega, rfl, fun j x hj => by omega⟩
  case round =>
    obtain ⟨k, hk, rfl, hno⟩ := hrel
    have HNO : Hid (∀ j x, j < k → xs[j]? = some x → (s.toList == x.toList) = false) := hno
    rw [HN.out] at hk
    clear hno
    by_cases hlt : k < n
    · have hx : xs[k]? = some (xs[k]'(by rw [HN.out]; exact hlt)) := List.getElem?_eq_getElem _
      obtain ⟨x, hx2⟩ : ∃ x, xs[k]? = some x := ⟨_, hx⟩
      have hcell := hs.cell k x hx2
      have HX : Hid (xs[k]? = some x) := hx2
      clear hx hx2
      cases he : (s.toList == x.toList) with
      | true =>
        have HT : Hid (true = res) := by
          unfold Hid; rw [← HRES.out]; symm
          rw [List.any_eq_true]
          exact ⟨x, List.mem_of_getElem? HX.out, he⟩
        go_wp2
        go_ret
        exact ⟨⟨_, rfl, by rw [← HT.out]; simp⟩, rfl⟩
      | false =>
        have HN2 : Hid (∀ j y, j < k + 1 → xs[j]? = some y → (s.toList == y.toList) = false) := by
          intro j y hj hy
          by_cases hjk : j = k
          · subst hjk; rw [HX.out] at hy; cases hy; exact he
          · exact HNO.out j y (by omega) hy
        go_wp2
        go_round
        case rel => exact ⟨k + 1, by rw [HN.out]; omega, by go_num, HN2.out⟩
        case measure => simp [intOf]; omega
    · have hkn : k = n := by omega
      have HF : Hid (false = res) := by
        unfold Hid; rw [← HRES.out]; symm
        rw [List.any_eq_false]
        intro x hx
        obtain ⟨j, hj, rfl⟩ := List.getElem_of_mem hx
        rw [HNO.out j _ (by rw [hkn, ← HN.out]; exact hj) (List.getElem?_eq_getElem hj)]
        simp
      subst hkn
      go_wp2
      go_ret
      exact ⟨⟨_, rfl, by rw [← HF.out]; decide⟩, rfl⟩
theorem slContains_as (w : World) (b : Nat) (xs : List ByteArray) (s : ByteArray) (hs : StrsIn w b xs) (n : Nat) (hn : xs.length = n) (hl : n ≤ 100) (res : Bool) (hr : (xs.any fun x => s.toList == x.toList) = res) :
    Calls Tryz.prog 79 #[.slice (some ⟨b, 0, none⟩) n n, .string s] w fun en w' => en = .returned (.bool res) ∧ w = w' := by
  go_enter Tryz.func79, Tryz.ntmps79
  go_wp2_with fail
  refine (slIndex_as w b xs s hs n hn hl res hr).mono ?_
  rintro en w1 ⟨⟨z, rfl, hz⟩, rfl⟩
  have HZ : Hid (decide (0 ≤ z) = res) := hz
  clear hz
  go_wp2
  go_ret
  exact ⟨ret_bool HZ.out, rfl⟩
theorem pis_as (w : World) (b : Nat) (xs : List ByteArray) (hs : StrsIn w b xs) (n : Nat) (hn : xs.length = n) (hl : n ≤ 100) (k kk : Int) (tx : ByteArray) (nn a e : Int) (res : Bool) (hr : (decide (k = kk) && xs.any fun x => tx.toList == x.toList) = res) :
    Calls Tryz.prog 60 #[.agg #[.int .u8 k, .string tx, .int .u64 nn, .int .i64 a, .int .i64 e], .int .u8 kk, .slice (some ⟨b, 0, none⟩) n n] w fun en w' => en = .returned (.bool res) ∧ Below w.heap.size w w' := by
  have HRS : Hid ((decide (k = kk) && xs.any fun x => tx.toList == x.toList) = res) := hr
  clear hr
  by_cases hk : k = kk
  · subst hk
    obtain ⟨q, hq⟩ : ∃ q, (xs.any fun x => tx.toList == x.toList) = q := ⟨_, rfl⟩
    have HQ : Hid (q = res) := by unfold Hid; rw [← HRS.out, ← hq]; simp
    have hs1 : StrsIn (w.alloc (.cells #[.int .u8 k, .string tx, .int .u64 nn, .int .i64 a, .int .i64 e] 77)) b xs := Own.alloc hs _
    go_enter Tryz.func60, Tryz.ntmps60
    go_wp2_with fail
    refine (slContains_as _ b xs tx hs1 n hn hl q hq).mono ?_
    rintro en w1 ⟨rfl, rfl⟩
    clear hq
    go_wp2
    go_ret
    exact ⟨ret_bool HQ.out, (Below.refl _ _).alloc (Nat.le_refl _) _⟩
  · have HQ : Hid (false = res) := by unfold Hid; rw [← HRS.out]; simp [hk]
    go_enter Tryz.func60, Tryz.ntmps60
    go_wp2
    go_ret
    exact ⟨ret_bool HQ.out, (Below.refl _ _).alloc (Nat.le_refl _) _⟩
theorem str_same (l : List Nat) (h : ∀ c ∈ l, c < 256) (x : ByteArray) : ((strN l).toList == x.toList) = (l == bytesN x) := by
  rw [bytes_same, bytesN_strN l h, Bool.eq_iff_iff]; simp
theorem nxt_good {w : World} {r E d : Nat} {s : St} (h : RdAt w r E d s) (i : Nat) : goodT (aheadT E s i) := by
  obtain ⟨v, h1, ao, cap, rfl, hlc, hcap, hlen, hgood, h4⟩ := h
  unfold aheadT
  rw [List.getD_eq_getElem?_getD]
  cases hq : s.rest[i]? with
  | none => exact ⟨by simp, by simp⟩
  | some t => exact hgood t (List.mem_of_getElem? hq)
def isT (kd : Nat) (xs : List ByteArray) (t : Tok) : Bool := t.1 == kd && xs.any fun x => t.2.1 == bytesN x
theorem isT_as {t : Tok} (hg : goodT t) {k : Int} {b : ByteArray} {n a e : Int} (ht : TokIs t k b n a e) (kd : Nat) (xs : List ByteArray) : (decide (k = (kd : Int)) && xs.any fun x => b.toList == x.toList) = isT kd xs t := by
  obtain ⟨rfl, rfl, rfl, rfl, rfl⟩ := ht
  unfold isT
  have e1 : decide ((t.1 : Int) = (kd : Int)) = (t.1 == kd) := by rw [Bool.eq_iff_iff]; simp; omega
  have e2 : (xs.any fun x => (strN t.2.1).toList == x.toList) = (xs.any fun x => t.2.1 == bytesN x) := by
    congr 1; funext x; exact str_same _ hg.1 x
  rw [e1, e2]
theorem psign_as {w : World} {r E d : Nat} {s : St} (HR : Hid (RdAt w r E d s)) (hE : E ≤ 1048576) {b : Nat} {xs : List ByteArray} (hs : StrsIn w b xs) (n : Nat) (hn : xs.length = n) (hl : n ≤ 100) (res : Bool) (hr : isT 4 xs (nxt E s) = res) :
    Calls Tryz.prog 66 #[.pointer (some ⟨r, 0, none⟩), .slice (some ⟨b, 0, none⟩) n n] w fun en w' => en = .returned (.bool res) ∧ RdAt w' r E d s ∧ Below w.heap.size w w' := by
  obtain ⟨k, tx, nn, a, e, ht⟩ := tokIs (nxt E s)
  have hq := (isT_as (nxt_good HR.out 0) ht 4 xs).trans hr
  go_enter Tryz.func66, Tryz.ntmps66
  go_wp2_with fail
  refine (pnext_as HR hE ht).mono ?_
  rintro en w1 ⟨rfl, hb⟩
  go_wp2_with fail
  refine (pis_as _ b xs (Own.below hs hb) n hn hl k 4 tx nn a e res hq).mono ?_
  rintro en w2 ⟨rfl, hb2⟩
  go_wp2
  go_ret
  exact ⟨rfl, (HR.out.below hb).below hb2, below_chain hb hb2 (Nat.le_refl _)⟩
theorem pword_as {w : World} {r E d : Nat} {s : St} (HR : Hid (RdAt w r E d s)) (hE : E ≤ 1048576) {b : Nat} {xs : List ByteArray} (hs : StrsIn w b xs) (n : Nat) (hn : xs.length = n) (hl : n ≤ 100) (res : Bool) (hr : isT 1 xs (nxt E s) = res) :
    Calls Tryz.prog 49 #[.pointer (some ⟨r, 0, none⟩), .slice (some ⟨b, 0, none⟩) n n] w fun en w' => en = .returned (.bool res) ∧ RdAt w' r E d s ∧ Below w.heap.size w w' := by
  obtain ⟨k, tx, nn, a, e, ht⟩ := tokIs (nxt E s)
  have hq := (isT_as (nxt_good HR.out 0) ht 1 xs).trans hr
  go_enter Tryz.func49, Tryz.ntmps49
  go_wp2_with fail
  refine (pnext_as HR hE ht).mono ?_
  rintro en w1 ⟨rfl, hb⟩
  go_wp2_with fail
  refine (pis_as _ b xs (Own.below hs hb) n hn hl k 1 tx nn a e res hq).mono ?_
  rintro en w2 ⟨rfl, hb2⟩
  go_wp2
  go_ret
  exact ⟨rfl, (HR.out.below hb).below hb2, below_chain hb hb2 (Nat.le_refl _)⟩
theorem pisName_as (w : World) {t : Tok} (hg : goodT t) {k : Int} {b : ByteArray} {n a e : Int} (HT : Hid (TokIs t k b n a e)) (res : Bool) (hr : nm t = res) :
    Calls Tryz.prog 80 #[.agg #[.int .u8 k, .string b, .int .u64 n, .int .i64 a, .int .i64 e]] w fun en w' => en = .returned (.bool res) ∧ Below w.heap.size w w' := by
  have HRS : Hid (nm t = res) := hr
  clear hr
  have hsz : b.size ≤ 1048576 := by
    have := HT.out.2.1
    rw [this, ← bytesN_length, bytesN_strN _ hg.1]; exact hg.2
  by_cases hk : k = 1
  · obtain ⟨q, hq⟩ : ∃ q, nameB (bytesN b) = q := ⟨_, rfl⟩
    have HQ : Hid (q = res) := by
      unfold Hid
      obtain ⟨h1, h2, _⟩ := HT.out
      rw [← HRS.out, ← hq, h2, bytesN_strN _ hg.1, nm, show t.1 = 1 by omega]; simp
    subst hk
    go_enter Tryz.func80, Tryz.ntmps80
    go_wp2_with fail
    refine (xname_as b q hsz hq _).mono ?_
    rintro en w1 ⟨rfl, hb⟩
    clear hq
    go_wp2
    go_ret
    exact ⟨ret_bool HQ.out, ((Below.refl _ _).alloc (Nat.le_refl _) _).trans (hb.mono (by simp))⟩
  · have HQ : Hid (false = res) := by
      unfold Hid
      obtain ⟨h1, _⟩ := HT.out
      have : ¬ t.1 = 1 := by omega
      rw [← HRS.out, nm]; simp [this]
    go_enter Tryz.func80, Tryz.ntmps80
    go_wp2
    go_ret
    exact ⟨ret_bool HQ.out, (Below.refl _ _).alloc (Nat.le_refl _) _⟩
theorem pname_as {w : World} {r E d : Nat} {s : St} (HR : Hid (RdAt w r E d s)) (hE : E ≤ 1048576) (res : Bool) (hr : nm (nxt E s) = res) :
    Calls Tryz.prog 63 #[.pointer (some ⟨r, 0, none⟩)] w fun en w' => en = .returned (.bool res) ∧ RdAt w' r E d s ∧ Below w.heap.size w w' := by
  obtain ⟨k, tx, nn, a, e, ht⟩ := tokIs (nxt E s)
  go_enter Tryz.func63, Tryz.ntmps63
  go_wp2_with fail
  refine (pnext_as HR hE ht).mono ?_
  rintro en w1 ⟨rfl, hb⟩
  go_wp2_with fail
  refine (pisName_as _ (nxt_good HR.out 0) ht res hr).mono ?_
  rintro en w2 ⟨rfl, hb2⟩
  go_wp2
  go_ret
  exact ⟨rfl, (HR.out.below hb).below hb2, below_chain hb hb2 (Nat.le_refl _)⟩
theorem pnumber_as {w : World} {r E d : Nat} {s : St} (HR : Hid (RdAt w r E d s)) (hE : E ≤ 1048576) (res : Bool) (hr : nu (nxt E s) = res) :
    Calls Tryz.prog 98 #[.pointer (some ⟨r, 0, none⟩)] w fun en w' => en = .returned (.bool res) ∧ RdAt w' r E d s ∧ Below w.heap.size w w' := by
  obtain ⟨k, tx, nn, a, e, ht⟩ := tokIs (nxt E s)
  have HQ : Hid ((k == 2) = res) := by
    unfold Hid
    rw [← hr, ht.1, nu, Bool.eq_iff_iff]; simp; omega
  go_enter Tryz.func98, Tryz.ntmps98
  go_wp2_with fail
  refine (pnext_as HR hE ht).mono ?_
  rintro en w1 ⟨rfl, hb⟩
  clear hr
  go_wp2
  go_ret
  exact ⟨ret_bool HQ.out, HR.out.below hb, hb⟩
theorem pcount_as {w : World} {r E d : Nat} {s : St} (HR : Hid (RdAt w r E d s)) (hE : E ≤ 1048576) (res : Bool) (hr : cn (nxt E s) = res) :
    Calls Tryz.prog 96 #[.pointer (some ⟨r, 0, none⟩)] w fun en w' => en = .returned (.bool res) ∧ RdAt w' r E d s ∧ Below w.heap.size w w' := by
  obtain ⟨k, tx, nn, a, e, ht⟩ := tokIs (nxt E s)
  obtain ⟨q, hq⟩ : ∃ q, nu (nxt E s) = q := ⟨_, rfl⟩
  have HQ : Hid ((q && (tx.toList == [])) = res) := by
    unfold Hid
    have hx : (tx.toList == []) = ((nxt E s).2.1 == []) := by
      rw [ht.2.1]; have := str_same _ (nxt_good HR.out 0).1 ⟨#[]⟩; simpa [ByteArray.toList_eq, bytesN, nxt] using this
    rw [← hr, hx, ← hq]; rfl
  clear hr
  cases q with
  | false =>
    go_enter Tryz.func96, Tryz.ntmps96
    go_wp2_with fail
    refine (pnumber_as HR hE _ hq).mono ?_
    rintro en w1 ⟨rfl, hR1, hb⟩
    clear hq
    go_wp2
    go_ret
    exact ⟨ret_bool (by rw [← HQ.out]; rfl), hR1, hb⟩
  | true =>
    go_enter Tryz.func96, Tryz.ntmps96
    go_wp2_with fail
    refine (pnumber_as HR hE _ hq).mono ?_
    rintro en w1 ⟨rfl, hR1, hb⟩
    clear hq
    go_wp2_with fail
    refine (pnext_as hR1 hE ht).mono ?_
    rintro en w2 ⟨rfl, hb2⟩
    go_wp2
    go_ret
    exact ⟨ret_bool (by rw [← HQ.out, Bool.true_and, ByteArray.toList_eq]; cases tx.data.toList <;> rfl), hR1.below hb2, below_chain hb hb2 (Nat.le_refl _)⟩
theorem isT_sg (x : ByteArray) (t : Tok) : isT 4 [x] t = sg (bytesN x) t := by simp [isT, sg]
theorem isT_wd (x : ByteArray) (t : Tok) : isT 1 [x] t = wd (bytesN x) t := by simp [isT, wd]
theorem RdAt.put {w : World} {r E d : Nat} {s : St} (h : RdAt w r E d s) (x y : Int) (e p : Nat) (hx : x = e) (hy : y = p) : RdAt ((w.setCell ⟨r, 3, none⟩ (.int .i64 x)).setCell ⟨r, 4, none⟩ (.int .i64 y)) r E d ⟨s.rest, e, p⟩ := by
  subst hx; subst hy
  obtain ⟨v, k1, k2⟩ := h
  refine ⟨v, (k1.set 3 _).set 4 _, k2.on fun b hb => ?_⟩
  rw [Below.heap_setCell _ ⟨r, 4, none⟩ _ b (by show b ≠ r; omega)]
  exact Below.heap_setCell w ⟨r, 3, none⟩ _ b (by show b ≠ r; omega)
theorem RdAt.deep {w : World} {r E d : Nat} {s : St} (h : RdAt w r E d s) (x : Int) (d' : Nat) (hx : x = d') : RdAt (w.setCell ⟨r, 2, none⟩ (.int .i64 x)) r E d' s := by
  subst hx
  obtain ⟨v, k1, k2⟩ := h
  exact ⟨v, k1.set 2 _, k2.on fun b hb => Below.heap_setCell w ⟨r, 2, none⟩ _ b (by show b ≠ r; omega)⟩
theorem pfail_as {w : World} {r E d : Nat} {s : St} (HR : Hid (RdAt w r E d s)) (x y : Int) (p e : Nat) (hx : x = p) (hy : y = e) :
    Calls Tryz.prog 58 #[.pointer (some ⟨r, 0, none⟩), .int .i64 x, .int .i64 y] w fun en w' => (∃ v, en = .returned v) ∧ RdAt w' r E d (failS p e s) ∧ Kp r w w' := by
  obtain ⟨v, h1, h2⟩ := HR.out
  obtain ⟨c0, c1, c2, c3, c4, f0⟩ := h1.five
  have hrl := h1.lt
  by_cases hw : s.wrong = 0
  · rw [hw] at c3
    have HF : Hid (failS p e s = ⟨[], e, p⟩) := by unfold Hid failS; rw [if_pos hw]
    have hrd := HR.out.put y x e p hy hx
    have hkp : Kp r w ((w.setCell ⟨r, 3, none⟩ (.int .i64 y)).setCell ⟨r, 4, none⟩ (.int .i64 x)) := ((Kp.refl r w).set (.inr rfl) 3 _).set (.inr rfl) 4 _
    clear h1 h2 hw hx hy
    go_enter Tryz.func58, Tryz.ntmps58
    go_wp2_with fail
    refine (pdrop_as hrd).mono ?_
    rintro en w1 ⟨⟨_, rfl⟩, hR1, hK1⟩
    go_wp2
    refine bodyPost_end (results_none rfl _ _ _) rfl ?_
    exact ⟨⟨_, rfl⟩, by rw [HF.out]; exact hR1, hkp.trans hK1⟩
  · have HF : Hid (failS p e s = s) := fail_keeps hw
    have hf : ((s.wrong : Int) == 0) = false := by simp; omega
    generalize (s.wrong : Int) = q at c3 hf
    clear h1 h2 hw
    go_enter Tryz.func58, Tryz.ntmps58
    go_wp2
    refine bodyPost_end (results_none rfl _ _ _) rfl ?_
    exact ⟨⟨_, rfl⟩, by rw [HF.out]; exact HR.out, Kp.refl r w⟩
theorem prefuse_as {w : World} {r E d : Nat} {s : St} (HR : Hid (RdAt w r E d s)) (hE : E ≤ 1048576) :
    Calls Tryz.prog 48 #[.pointer (some ⟨r, 0, none⟩)] w fun en w' => (∃ v, en = .returned v) ∧ RdAt w' r E d (refS E s) ∧ Kp r w w' := by
  obtain ⟨k, tx, nn, a, e, ht⟩ := tokIs (nxt E s)
  go_enter Tryz.func48, Tryz.ntmps48
  go_wp2_with fail
  refine (pnext_as HR hE ht).mono ?_
  rintro en w1 ⟨rfl, hb⟩
  go_wp2_with fail
  refine (pfail_as (HR.out.below hb) a 40 _ 40 ht.2.2.2.1 rfl).mono ?_
  rintro en w2 ⟨⟨_, rfl⟩, hR2, hK2⟩
  go_wp2
  refine bodyPost_end (results_none rfl _ _ _) rfl ?_
  exact ⟨⟨_, rfl⟩, hR2, (Kp.of hb).trans hK2⟩
theorem pneed_as {w : World} {r E d : Nat} {s : St} (HR : Hid (RdAt w r E d s)) (hE : E ≤ 1048576) (b : Bool) {t : Tok} {s' : St} (hn : needT b E d s = some (t, s')) {k : Int} {tx : ByteArray} {n a e : Int} (HT : Hid (TokIs t k tx n a e)) :
    Calls Tryz.prog 62 #[.pointer (some ⟨r, 0, none⟩), .bool b] w fun en w' => en = .returned (.agg #[.int .u8 k, .string tx, .int .u64 n, .int .i64 a, .int .i64 e]) ∧ RdAt w' r E d s' ∧ Kp r w w' := by
  have hrl := HR.out.lt
  cases b with
  | true =>
    obtain ⟨rfl, rfl⟩ : nxt E s = t ∧ popS s = s' := by simpa [needT] using hn
    clear hn
    go_enter Tryz.func62, Tryz.ntmps62
    go_wp2_with fail
    refine (ptake_as (HR.out.alloc _) hE HT).mono ?_
    rintro en w1 ⟨rfl, hR1, hK1⟩
    have o := (Own.new w #[.int .u8 0, .string ⟨#[]⟩, .int .u64 0, .int .i64 0, .int .i64 0] 77).kp hK1 (by omega)
    obtain ⟨c0, c1, c2, c3, c4, f0⟩ := o.five
    go_wp2
    refine bodyPost_cell1 (t := 77) rfl rfl rfl (o.set5 _ _ _ _ _) Tryz.underlying77 rfl (by kernel_rfl) ?_
    exact ⟨rfl, hR1.set5 (by omega) _ _ _ _ _, ((((Kp.refl r w).alloc _).trans hK1).set5 (.inl (by omega)) _ _ _ _ _)⟩
  | false =>
    obtain ⟨rfl, rfl⟩ : noT = t ∧ refS E s = s' := by simpa [needT] using hn
    obtain ⟨rfl, rfl, rfl, rfl, rfl⟩ := HT.out
    clear hn
    go_enter Tryz.func62, Tryz.ntmps62
    go_wp2_with fail
    refine (prefuse_as (HR.out.alloc _) hE).mono ?_
    rintro en w1 ⟨⟨_, rfl⟩, hR1, hK1⟩
    have o := (Own.new w #[.int .u8 0, .string ⟨#[]⟩, .int .u64 0, .int .i64 0, .int .i64 0] 77).kp hK1 (by omega)
    obtain ⟨c0, c1, c2, c3, c4, f0⟩ := o.five
    go_wp2
    refine bodyPost_cell1 (t := 77) rfl rfl rfl (o.set5 _ _ _ _ _) Tryz.underlying77 rfl (by kernel_rfl) ?_
    exact ⟨rfl, hR1.set5 (by omega) _ _ _ _ _, ((((Kp.refl r w).alloc _).trans hK1).set5 (.inl (by omega)) _ _ _ _ _)⟩
theorem penter_as {w : World} {r E d : Nat} {s : St} (HR : Hid (RdAt w r E d s)) (hd : d ≤ 1000000000) {t : Tok} {k : Int} {tx : ByteArray} {n a e : Int} (HT : Hid (TokIs t k tx n a e)) :
    Calls Tryz.prog 81 #[.pointer (some ⟨r, 0, none⟩), .agg #[.int .u8 k, .string tx, .int .u64 n, .int .i64 a, .int .i64 e]] w fun en w' => (∃ v, en = .returned v) ∧ RdAt w' r E (d + 1) (deepS d t s) ∧ Kp r w w' := by
  have hrd := HR.out
  obtain ⟨v, h1, h2⟩ := HR.out
  obtain ⟨c0, c1, c2, c3, c4, f0⟩ := h1.five
  have hrl := h1.lt
  clear h1 h2
  by_cases hd64 : d = 64
  · have HD : Hid (deepS d t s = failS t.2.2.2.1 41 s) := by unfold Hid deepS; rw [if_pos hd64]
    subst hd64
    go_enter Tryz.func81, Tryz.ntmps81
    go_wp2_with fail
    refine (pfail_as (HR.out.alloc _) a 41 _ 41 HT.out.2.2.2.1 rfl).mono ?_
    rintro en w1 ⟨⟨_, rfl⟩, hR1, hK1⟩
    have hR2 := hR1.deep 65 65 rfl
    obtain ⟨v, k1, k2⟩ := hR1
    obtain ⟨e0, e1, e2, e3, e4, g0⟩ := k1.five
    clear k1 k2 c0 c1 c2 c3 c4 f0
    go_wp2
    refine bodyPost_end (results_none rfl _ _ _) rfl ?_
    exact ⟨⟨_, rfl⟩, by rw [HD.out]; exact hR2, (((Kp.refl r w).alloc _).trans hK1).set (.inr rfl) 2 _⟩
  · have HD : Hid (deepS d t s = s) := by unfold Hid deepS; rw [if_neg hd64]
    have hf : ((d : Int) == 64) = false := by simp; omega
    obtain ⟨q, hq⟩ : ∃ q : Int, (d : Int) = q := ⟨_, rfl⟩
    have hR2 := (hrd.deep (q + 1) (d + 1) (by omega)).alloc (.cells #[.int .u8 k, .string tx, .int .u64 n, .int .i64 a, .int .i64 e] 77)
    rw [hq] at c2 hf
    have hq2 : 0 ≤ q ∧ q ≤ 1000000000 := by omega
    clear hq hd64 hrd
    go_enter Tryz.func81, Tryz.ntmps81
    go_wp2
    refine bodyPost_end (results_none rfl _ _ _) rfl ?_
    exact ⟨⟨_, rfl⟩, by rw [HD.out]; exact hR2, ((Kp.refl r w).set (.inr rfl) 2 _).alloc _⟩
theorem pleave_as {w : World} {r E d : Nat} {s : St} (HR : Hid (RdAt w r E (d + 1) s)) (hd : d ≤ 1000000000) :
    Calls Tryz.prog 83 #[.pointer (some ⟨r, 0, none⟩)] w fun en w' => (∃ v, en = .returned v) ∧ RdAt w' r E d s ∧ Kp r w w' := by
  have hrd := HR.out
  obtain ⟨v, h1, h2⟩ := HR.out
  obtain ⟨c0, c1, c2, c3, c4, f0⟩ := h1.five
  clear h1 h2
  obtain ⟨q, hq⟩ : ∃ q : Int, ((d + 1 : Nat) : Int) = q := ⟨_, rfl⟩
  have hR2 := hrd.deep (q - 1) d (by omega)
  rw [hq] at c2
  have hq2 : 0 ≤ q ∧ q ≤ 1000000001 := by omega
  clear hq hrd
  go_enter Tryz.func83, Tryz.ntmps83
  go_wp2
  refine bodyPost_end (results_none rfl _ _ _) rfl ?_
  exact ⟨⟨_, rfl⟩, hR2, (Kp.refl r w).set (.inr rfl) 2 _⟩
theorem popen_as {w : World} {r E d : Nat} {s : St} (HR : Hid (RdAt w r E d s)) (hE : E ≤ 1048576) (hd : d ≤ 1000000000) (x : ByteArray) {t : Tok} {s' : St} (hn : needW (sg (bytesN x)) E d s = some (t, s')) {k : Int} {tx : ByteArray} {n a e : Int} (HT : Hid (TokIs t k tx n a e)) :
    Calls Tryz.prog 64 #[.pointer (some ⟨r, 0, none⟩), .string x] w fun en w' => en = .returned (.agg #[.int .u8 k, .string tx, .int .u64 n, .int .i64 a, .int .i64 e]) ∧ RdAt w' r E (d + 1) (deepS d t s') ∧ Kp r w w' := by
  have hrl := HR.out.lt
  obtain ⟨q, hq⟩ : ∃ q, sg (bytesN x) (nxt E s) = q := ⟨_, rfl⟩
  have hn2 : needT q E d s = some (t, s') := by rw [← hq]; exact hn
  have HQ : Hid (isT 4 [x] (nxt E s) = q) := (isT_sg x _).trans hq
  have hs1 : StrsIn ((w.alloc (.cells #[.int .u8 0, .string ⟨#[]⟩, .int .u64 0, .int .i64 0, .int .i64 0] 77)).alloc (.cells #[.string x] 9)) (w.heap.size + 1) [x] := by
    have := Own.new (w.alloc (.cells #[.int .u8 0, .string ⟨#[]⟩, .int .u64 0, .int .i64 0, .int .i64 0] 77)) #[.string x] 9
    rw [World.size_alloc] at this; exact this
  clear hn hq
  go_enter Tryz.func64, Tryz.ntmps64
  go_wp2_with fail
  refine (psign_as ((HR.out.alloc _).alloc _) hE hs1 1 rfl (by omega) q HQ.out).mono ?_
  rintro en w1 ⟨rfl, hR1, hb1⟩
  have o1 := ((Own.new w #[.int .u8 0, .string ⟨#[]⟩, .int .u64 0, .int .i64 0, .int .i64 0] 77).alloc (.cells #[.string x] 9)).below hb1
  have hK1 : Kp r w w1 := (((Kp.refl r w).alloc _).alloc _).trans (Kp.of hb1)
  clear hb1
  go_wp2_with fail
  refine (pneed_as hR1 hE q hn2 HT).mono ?_
  rintro en w2 ⟨rfl, hR2, hK2⟩
  have o2 := o1.kp hK2 (by omega)
  have hK2 := hK1.trans hK2
  clear o1 hR1 hK1
  go_wp2_with fail
  refine (penter_as (hR2.alloc _) hd HT).mono ?_
  rintro en w3 ⟨⟨_, rfl⟩, hR3, hK3⟩
  have hs2 := o2.lt
  have hs3 := hK2.size
  have hr2 := hR2.lt
  have o3 := (o2.alloc (.cells #[.int .u8 k, .string tx, .int .u64 n, .int .i64 a, .int .i64 e] 77)).kp hK3 (by omega)
  have p3 := (Own.new w2 #[.int .u8 k, .string tx, .int .u64 n, .int .i64 a, .int .i64 e] 77).kp hK3 (by omega)
  have hK3 := (hK2.alloc _).trans hK3
  obtain ⟨c0, c1, c2, c3, c4, f0⟩ := o3.five
  obtain ⟨d0, d1, d2, d3, d4, g0⟩ := p3.five
  clear hK2 o2 hR2
  go_wp2
  refine bodyPost_cell1 (t := 77) rfl rfl rfl (o3.set5 _ _ _ _ _) Tryz.underlying77 rfl (by kernel_rfl) ?_
  exact ⟨rfl, hR3.set5 (by omega) _ _ _ _ _, hK3.set5 (.inl (by omega)) _ _ _ _ _⟩
theorem pshut_as {w : World} {r E d : Nat} {s : St} (HR : Hid (RdAt w r E (d + 1) s)) (hE : E ≤ 1048576) (hd : d ≤ 1000000000) (x : ByteArray) {t : Tok} {s' : St} (hn : needW (sg (bytesN x)) E d s = some (t, s')) :
    Calls Tryz.prog 67 #[.pointer (some ⟨r, 0, none⟩), .string x] w fun en w' => (∃ v, en = .returned v) ∧ RdAt w' r E d s' ∧ Kp r w w' := by
  have hrl := HR.out.lt
  obtain ⟨k, tx, nn, a, e, ht⟩ := tokIs t
  obtain ⟨q, hq⟩ : ∃ q, sg (bytesN x) (nxt E s) = q := ⟨_, rfl⟩
  have hn2 : needT q E d s = some (t, s') := by rw [← hq]; exact hn
  have HQ : Hid (isT 4 [x] (nxt E s) = q) := (isT_sg x _).trans hq
  clear hn hq
  go_enter Tryz.func67, Tryz.ntmps67
  go_wp2_with fail
  refine (pleave_as HR hd).mono ?_
  rintro en w1 ⟨⟨_, rfl⟩, hR1, hK1⟩
  go_wp2_with fail
  refine (psign_as (hR1.alloc _) hE (xs := [x]) (Own.new w1 #[.string x] 9) 1 rfl (by omega) q HQ.out).mono ?_
  rintro en w2 ⟨rfl, hR2, hb2⟩
  have hK2 : Kp r w w2 := (hK1.alloc _).trans (Kp.of hb2)
  clear hb2 hK1 hR1
  go_wp2_with fail
  refine (pneed_as hR2 hE q hn2 ht).mono ?_
  rintro en w3 ⟨rfl, hR3, hK3⟩
  go_wp2
  refine bodyPost_end (results_none rfl _ _ _) rfl ?_
  exact ⟨⟨_, rfl⟩, hR3, hK2.trans hK3⟩
theorem plabel_as {w : World} {r E d : Nat} {s : St} (HR : Hid (RdAt w r E d s)) (hE : E ≤ 1048576) (res : Bool) (hr : labelB E s = res) :
    Calls Tryz.prog 109 #[.pointer (some ⟨r, 0, none⟩)] w fun en w' => en = .returned (.bool res) ∧ RdAt w' r E d s ∧ Below w.heap.size w w' := by
  obtain ⟨k, tx, nn, a, e, ht⟩ := tokIs (aheadT E s 1)
  obtain ⟨q, hq⟩ : ∃ q, nm (nxt E s) = q := ⟨_, rfl⟩
  obtain ⟨p, hp⟩ : ∃ p, isT 4 [⟨#[58]⟩] (aheadT E s 1) = p := ⟨_, rfl⟩
  have HQ : Hid ((q && p) = res) := by
    unfold Hid; rw [← hr, ← hq, ← hp, isT_sg]; rfl
  have hq2 := (isT_as (nxt_good HR.out 1) ht 4 [⟨#[58]⟩]).trans hp
  clear hr hp
  cases q with
  | false =>
    go_enter Tryz.func109, Tryz.ntmps109
    go_wp2_with fail
    refine (pname_as HR hE _ hq).mono ?_
    rintro en w1 ⟨rfl, hR1, hb⟩
    clear hq
    go_wp2
    go_ret
    exact ⟨ret_bool (by rw [← HQ.out]; rfl), hR1, hb⟩
  | true =>
    go_enter Tryz.func109, Tryz.ntmps109
    go_wp2_with fail
    refine (pname_as HR hE _ hq).mono ?_
    rintro en w1 ⟨rfl, hR1, hb⟩
    clear hq
    go_wp2_with fail
    refine (pahead_as hR1 hE 1 1 rfl (by omega) ht).mono ?_
    rintro en w2 ⟨rfl, hb2⟩
    go_wp2_with fail
    refine (pis_as _ w2.heap.size [⟨#[58]⟩] (Own.new w2 _ _) 1 rfl (by omega) k 4 tx nn a e p hq2).mono ?_
    rintro en w3 ⟨rfl, hb3⟩
    go_wp2
    go_ret
    have hb4 : Below w2.heap.size w2 w3 := ((Below.refl _ _).alloc (Nat.le_refl _) _).trans (hb3.mono (by simp))
    exact ⟨ret_bool (by rw [← HQ.out]; rfl), (hR1.below hb2).below hb4, below_chain (below_chain hb hb2 (Nat.le_refl _)) hb4 (Nat.le_refl _)⟩
end Go.Proofs.YtmhnbklchnnbaaaGreatDoor
