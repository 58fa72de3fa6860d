/-
  LISTS OF ONE'S OWN: slices.Clone of numbers, take, put.
  A TYPE OF A TABLE: slices.Contains of kinds, find.
  take and put of numbers that are written out; what an effect is.
-/
import Derived.Test.YtjfdlphkmpkjdaaDoorJml
import Derived.Test.YtjfdlphkmpkjdaaDoorJbs
namespace Go.Proofs.YtjfdlphkmpkjdaaDoor
open Go.RowKit
set_option linter.unusedVariables false

/-- Numbers in a row of the call's own. -/
structure IntNew (w : World) (B : Nat) (v : Value) (xs : List Int) : Prop where
  row : Rw w 3 1 v xs.length (intV xs)
  new : ∀ b, v.ownBlock = some b → B ≤ b
theorem IntNew.below {w w' : World} {B : Nat} {v : Value} {xs : List Int} (h : IntNew w B v xs) (hb : Below w.heap.size w w') : IntNew w' B v xs := ⟨h.row.belowR hb, h.new⟩
theorem IntNew.mono {w : World} {B B' : Nat} {v : Value} {xs : List Int} (h : IntNew w B v xs) (hb : B' ≤ B) : IntNew w B' v xs := ⟨h.row, fun b e => Nat.le_trans hb (h.new b e)⟩
theorem IntNew.grown {w w' : World} {B g : Nat} {v : Value} {xs : List Int} {cs : Array Value} {t : TypeId} (h : IntNew w B v xs) (hg : w.grownBy w' (some g)) (ho : Own w g cs t) (ht : 3 ≠ t) : IntNew w' B v xs := ⟨h.row.grown hg (fun k e q => by cases q; exact h.row.ne ho ht e), h.new⟩
theorem IntNew.nil (w : World) (B : Nat) : IntNew w B (.slice none 0 0) [] := ⟨World.ownsRow_nil _ _ _ _, by simp [Value.ownBlock]⟩
theorem IntNew.shape {w : World} {B : Nat} {v : Value} {xs : List Int} (h : IntNew w B v xs) : ∃ a c, v = .slice a xs.length c := by
  obtain ⟨a, c, e, _⟩ := h.row.shape
  exact ⟨a, c, e⟩
set_option maxHeartbeats 1000000 in
set_option maxRecDepth 100000 in
theorem clone_as {w : World} {a : Option Addr} {n c : Nat} {xs : List Int} (hl : RowAt w a 1 xs.length (inF xs)) (hn : n = xs.length) (hno : a = none → c = 0) (hle : n ≤ c) (hm : n ≤ 1000000) :
    Calls Tryd.prog 69 #[.slice a n c] w fun e w' => ∃ v, e = .returned v ∧ IntNew w' w.heap.size v xs ∧ Below w.heap.size w w' := by
  cases a with
  | none =>
    have hc := hno rfl
    subst hc
    obtain rfl : n = 0 := by omega
    obtain rfl : xs = [] := List.eq_nil_of_length_eq_zero hn.symm
    clear hl hn hno hle hm
    have hnil : (binOp BinOp.eql 34 (.slice none 0 0) (.slice none 0 0)).run Tryd.prog w = .ok (.bool true) w := by kernel_rfl
    go_enter Tryd.func69, Tryd.ntmps69
    go_wp2
    go_ret
    exact ⟨_, rfl, IntNew.nil _ _, Below.refl _ _⟩
  | some ad =>
    have HR : Hid (∀ wr, Below w.heap.size w wr → n = 0 ∨ ∃ b off, some ad = some ⟨b, off, none⟩ ∧ ∀ j u, (intV xs)[j]? = some u → wr.cell? ⟨b, off + j, none⟩ = some u) := by
      intro wr hb
      rw [hn]
      exact (hl.below hb).read (by rw [intV_length]; omega) (by omega) (fun i hi d hd => intV_get xs i hi d hd)
    have HN : Hid (n = xs.length) := hn
    have HM : Hid (n ≤ 1000000) := hm
    have hnil : (binOp BinOp.eql 34 (.slice (some ad) n c) (.slice none 0 0)).run Tryd.prog w = .ok (.bool false) w := by kernel_rfl
    clear hl hn hno hm hle
    have R0 : Rw (w.alloc (.cells #[] 3)) 3 1 (.slice (some ⟨w.heap.size, 0, none⟩) 0 0) 0 [] := ⟨rfl, .inr ⟨w.heap.size, 0, #[], rfl, Nat.zero_le _, Own.new w #[] 3, Nat.le_refl _, by unfold maxLen; omega, rfl, rfl⟩⟩
    have hb := new_below w (.cells #[] 3)
    have HRR := HR.out _ hb
    have HF : Hid (∀ (a1 : Option Addr) (c1 : Nat) (w1 : World), Rw w1 3 1 (.slice a1 (0 + n) c1) (0 + n) ([] ++ intV xs) → (w.alloc (.cells #[] 3)).grownBy w1 (Value.slice (some ⟨w.heap.size, 0, none⟩) 0 0).ownBlock → ((Value.slice a1 (0 + n) c1).ownBlock = (Value.slice (some ⟨w.heap.size, 0, none⟩) 0 0).ownBlock ∨ (Value.slice a1 (0 + n) c1).ownBlock = some (w.alloc (.cells #[] 3)).heap.size) → IntNew w1 w.heap.size (.slice a1 n c1) xs ∧ Below w.heap.size w w1) := by
      intro a1 c1 w1 h1 h2 h3
      rw [Nat.zero_add] at h1 h3
      refine ⟨⟨by rw [← HN.out]; simpa using h1, fun b q => ?_⟩, hb.grown h2 hb.size (fun k e => by cases e; exact Nat.le_refl _)⟩
      rcases h3 with e | e
      · rw [e] at q; cases q; exact Nat.le_refl _
      · rw [e] at q; cases q; exact hb.size
    go_enter Tryd.func69, Tryd.ntmps69
    go_wp2_with (refine wpList_appG okN (by rfl) (.tmp 5) (.tmp 6) (by rfl) _ 0 [] (by rfl) R0 (some ad) n c (intV xs) (by rfl) (by rw [intV_length, HN.out]; omega) HRR (fun e => by cases e) (intV_one xs) (by have := HM.out; omega) ?_; intro a1 c1 w1 q1 q2 q3; have HQ := HF.out a1 c1 w1 q1 q2 q3; clear q1 q2 q3 HF HRR R0)
    go_ret
    exact ⟨_, rfl, HQ⟩
abbrev effV (tv pv : Value) : Value := .agg #[tv, pv]
theorem infoE : (Tryd.prog.info? 69).map (·.size) = some 2 := by kernel_rfl
set_option maxHeartbeats 1000000 in
set_option maxRecDepth 100000 in
theorem take_as {w : World} {a : Option Addr} {n c : Nat} {xs : List Int} (hl : RowAt w a 1 xs.length (inF xs)) (hn : n = xs.length) (hno : a = none → c = 0) (hle : n ≤ c) (hm : n ≤ 1000000) :
    Calls Tryd.prog 44 #[.slice a n c] w fun e w' => ∃ v, e = .returned (effV v (.slice none 0 0)) ∧ IntNew w' w.heap.size v xs ∧ Below w.heap.size w w' := by
  have o0 := Own.new w #[.slice none 0 0, .slice none 0 0] 69
  have b0 := new_below w (.cells #[.slice none 0 0, .slice none 0 0] 69)
  have hC := clone_as (hl.below b0) hn hno hle hm
  clear hl hn hno hle hm
  go_enter Tryd.func44, Tryd.ntmps44
  go_upto_region 1 with fail
  have hs : w.heap.size ≤ (w.alloc (.cells #[.slice none 0 0, .slice none 0 0] 69)).heap.size := b0.size
  generalize w.alloc (.cells #[.slice none 0 0, .slice none 0 0] 69) = w1 at *
  go_wp2_with fail
  refine hC.mono ?_
  rintro e w2 ⟨v, rfl, i2, b2⟩
  have o2 := o0.below b2
  have B2 := b0.trans (b2.mono hs)
  have I2 := i2.mono hs
  obtain ⟨a1, c1, rfl⟩ := I2.shape
  clear hC o0 b0 i2 b2
  go_wp2_with (refine wpList_put rfl 69 (.tmp 2) (.tmp 5) rfl rfl w.heap.size 0 rfl rfl o2 infoE rfl (by simp) rfl ?_; intro w5 o5 g5)
  have I5 := I2.grown g5 o2 (by decide)
  have B5 := B2.grown g5 B2.size (fun k e => by cases e; exact Nat.le_refl _)
  refine bodyPost_cell1 (g := w.heap.size) (t := 69) rfl rfl rfl o5 Tryd.underlying69 rfl (by kernel_rfl) ?_
  exact ⟨_, rfl, I5, B5⟩
set_option maxHeartbeats 1000000 in
set_option maxRecDepth 100000 in
theorem put_as {w : World} {B : Nat} {tv : Value} {T : List Int} (hB : B ≤ w.heap.size) (hT : IntNew w B tv T) {a : Option Addr} {n c : Nat} {xs : List Int} (hl : RowAt w a 1 xs.length (inF xs)) (hn : n = xs.length) (hno : a = none → c = 0) (hle : n ≤ c) (hm : n ≤ 1000000) :
    Calls Tryd.prog 45 #[effV tv (.slice none 0 0), .slice a n c] w fun e w' => ∃ v, e = .returned (effV tv v) ∧ IntNew w' B tv T ∧ IntNew w' B v xs ∧ Below w.heap.size w w' := by
  obtain ⟨ta, tc, rfl⟩ := hT.shape
  have oE := Own.new w #[.slice ta T.length tc, .slice none 0 0] 69
  have b0 := new_below w (.cells #[.slice ta T.length tc, .slice none 0 0] 69)
  have hT0 := hT.below b0
  have hl0 := hl.below b0
  have hs : w.heap.size < (w.alloc (.cells #[.slice ta T.length tc, .slice none 0 0] 69)).heap.size := by rw [World.size_alloc]; omega
  clear hT hl
  go_enter Tryd.func45, Tryd.ntmps45
  go_upto_region 1 with fail
  have e1 : (w.alloc (.cells #[.slice ta T.length tc, .slice none 0 0] 69)).heap.size = w.heap.size + 1 := World.size_alloc _ _
  generalize w.alloc (.cells #[.slice ta T.length tc, .slice none 0 0] 69) = w1 at *
  have oR := Own.new w1 #[.slice none 0 0, .slice none 0 0] 69
  have b1 := new_below w1 (.cells #[.slice none 0 0, .slice none 0 0] 69)
  have hs1 : w1.heap.size < (w1.alloc (.cells #[.slice none 0 0, .slice none 0 0] 69)).heap.size := by rw [World.size_alloc]; omega
  have oE1 := oE.below b1
  have hT1 := hT0.below b1
  have hC := clone_as (hl0.below b1) hn hno hle hm
  have B1 := b0.trans (b1.mono b0.size)
  generalize w1.alloc (.cells #[.slice none 0 0, .slice none 0 0] 69) = w2 at *
  rw [e1] at oR
  have hne : ¬ w.heap.size = w.heap.size + 1 := by omega
  have hne2 : ¬ w.heap.size + 1 = w.heap.size := by omega
  have hww : w.heap.size ≤ w.heap.size + 1 := by omega
  clear e1 hl0 hn hno hle hm oE hT0 b0 b1 hs
  go_wp2_with fail
  refine hC.mono ?_
  rintro e w3 ⟨v, rfl, i3, b3⟩
  have oE3 := oE1.below b3
  have oR3 := oR.below b3
  have hT3 := hT1.below b3
  have B3 := B1.trans (b3.mono B1.size)
  have I3 := i3.mono (Nat.le_trans hB B1.size)
  obtain ⟨a1, c1, rfl⟩ := I3.shape
  have oE4 : Own (w3.setCell ⟨w.heap.size, 1, none⟩ (.slice a1 xs.length c1)) w.heap.size #[.slice ta T.length tc, .slice a1 xs.length c1] 69 := by simpa using oE3.set 1 (.slice a1 xs.length c1)
  have oR4 := oR3.other (i := 1) hne2 (.slice a1 xs.length c1)
  have hT4 : IntNew (w3.setCell ⟨w.heap.size, 1, none⟩ (.slice a1 xs.length c1)) B (.slice ta T.length tc) T := ⟨hT3.row.set (hT3.row.ne oE3 (by decide)) 1 _, hT3.new⟩
  have hI4 : IntNew (w3.setCell ⟨w.heap.size, 1, none⟩ (.slice a1 xs.length c1)) B (.slice a1 xs.length c1) xs := ⟨I3.row.set (I3.row.ne oE3 (by decide)) 1 _, I3.new⟩
  have B4 : Below w.heap.size w (w3.setCell ⟨w.heap.size, 1, none⟩ (.slice a1 xs.length c1)) := B3.setCell (Nat.le_refl _) _
  obtain ⟨x0, x1, xf⟩ := own2 oE3
  clear hC oE1 oR hT1 i3 b3 B1 oE3 oR3 hT3 B3 I3 hs1
  go_upto_region 2 with fail
  generalize w3.setCell ⟨w.heap.size, 1, none⟩ (.slice a1 xs.length c1) = w4 at *
  obtain ⟨y0, y1, yf⟩ := own2 oE4
  clear x0 x1 xf
  go_wp2_with (refine wpList_put rfl 69 (.tmp 4) (.tmp 8) rfl rfl (w.heap.size + 1) 0 rfl rfl oR4 infoE rfl (by simp) rfl ?_; intro w5 o5 g5)
  have T5 := hT4.grown g5 oR4 (by decide)
  have I5 := hI4.grown g5 oR4 (by decide)
  have B5 := B4.grown g5 B4.size (fun k e => by cases e; exact hww)
  refine bodyPost_cell1 (g := w.heap.size + 1) (t := 69) rfl rfl rfl o5 Tryd.underlying69 rfl (by kernel_rfl) ?_
  exact ⟨_, rfl, T5, I5, B5⟩
end Go.Proofs.YtjfdlphkmpkjdaaDoor
namespace Go.Proofs.YtjfdlphkmpkjdaaDoor
open Go.RowKit
set_option linter.unusedVariables false

/-- The few kinds of a list: where they lie. -/
def KsAt (w : World) (g : Nat) (ks : List Nat) : Prop := ks.length ≤ 2 ∧ (∀ c ∈ ks, c < 256) ∧ ∀ i, i < ks.length → w.cell? ⟨g, i, none⟩ = some (.int .u8 ((ks.getD i 0 : Nat) : Int))
theorem KsAt.below {w w' : World} {g : Nat} {ks : List Nat} (h : KsAt w g ks) (hb : Below w.heap.size w w') : KsAt w' g ks :=
  ⟨h.1, h.2.1, fun i hi => (hb.cell (p := ⟨g, i, none⟩) (World.block_lt_of_cell? w _ (h.2.2 i hi))).trans (h.2.2 i hi)⟩
def idx (k : Nat) : List Nat → Int
  | [] => -1
  | c :: r => if k = c then 0 else if idx k r = -1 then -1 else idx k r + 1
set_option maxHeartbeats 1000000 in
set_option maxRecDepth 100000 in
theorem index_as {w : World} {g c n : Nat} {ks : List Nat} (h : KsAt w g ks) (hn : n = ks.length) (k : Nat) (hk : k < 256) (b : Bool) (hb : b = true ↔ k ∈ ks) :
    Calls Tryd.prog 88 #[.slice (some ⟨g, 0, none⟩) n c, .int .u8 (k : Int)] w fun e w' => (∃ i : Int, e = .returned (.int .i64 i) ∧ decide (0 ≤ i) = b ∧ -1 ≤ i ∧ i ≤ 2) ∧ w = w' := by
  obtain ⟨h1, h2, h3⟩ := h
  have H3 : Hid (∀ i, i < n → w.cell? ⟨g, i, none⟩ = some (.int .u8 ((ks.getD i 0 : Nat) : Int))) := by rw [hn]; exact h3
  have HB : Hid (b = true ↔ k ∈ ks) := hb
  have HN : Hid (n = ks.length) := hn
  have hn2 : n ≤ 2 := by omega
  clear h1 h2 h3 hb hn
  go_enter Tryd.func88, Tryd.ntmps88
  go_wp2_with fail
  go_loopw [8] (fun i wr => ∃ j : Nat, j ≤ n ∧ i = .int .i64 (j : Int) ∧ wr = w ∧ ∀ q, q < j → ¬ ks.getD q 0 = k) (fun i _ => n - (intOf i).toNat)
  case atStart => exact ⟨0, Nat.zero_le _, rfl, rfl, fun q hq => by omega⟩
  case round =>
    obtain ⟨j, hj, rfl, rfl, hpre⟩ := hrel
    by_cases hlt : j < n
    · have hc := H3.out j hlt
      by_cases he : ks.getD j 0 = k
      · obtain rfl : b = true := HB.out.2 (by rw [← he]; exact getD_in (by rw [← HN.out]; exact hlt))
        rw [he] at hc
        clear hpre he hk
        go_wp2
        go_ret
        exact ⟨⟨_, rfl, by simp, by omega, by omega⟩, by trivial⟩
      · have hne : ((k : Int) == ((ks.getD j 0 : Nat) : Int)) = false := by rw [beq_eq_false_iff_ne]; omega
        have HP : Hid (∀ q, q < j + 1 → ¬ ks.getD q 0 = k) := fun q hq => by
          by_cases e : q = j
          · subst e; exact he
          · exact hpre q (by omega)
        clear hpre he
        generalize ((ks.getD j 0 : Nat) : Int) = V at *
        go_wp2
        go_roundw
        case rel => exact ⟨j + 1, hlt, by go_num, by trivial, HP.out⟩
        case measure => simp [intOf]; omega
    · obtain rfl : b = false := iff_false HB.out (fun q => by
        obtain ⟨i, hi, e⟩ := List.mem_iff_getElem.1 q
        exact hpre i (by have := HN.out; omega) (by simp [List.getD, hi, e]))
      clear hpre
      go_wp2
      go_ret
      exact ⟨⟨-1, rfl, by simp, by omega, by omega⟩, rfl⟩
set_option maxHeartbeats 1000000 in
set_option maxRecDepth 100000 in
theorem contains_as {w : World} {g c n : Nat} {ks : List Nat} (h : KsAt w g ks) (hn : n = ks.length) (k : Nat) (hk : k < 256) (b : Bool) (hb : b = true ↔ k ∈ ks) :
    Calls Tryd.prog 86 #[.slice (some ⟨g, 0, none⟩) n c, .int .u8 (k : Int)] w fun e w' => e = .returned (.bool b) ∧ w = w' := by
  have hC := index_as (c := c) h hn k hk b hb
  clear h hb hk hn
  go_enter Tryd.func86, Tryd.ntmps86
  go_wp2_with fail
  refine hC.mono ?_
  rintro e w1 ⟨⟨i, rfl, h1, h2, h3⟩, rfl⟩
  clear hC
  have H1 : Hid (decide (0 ≤ i) = b) := h1
  clear h1
  go_wp2
  go_ret
  refine ⟨?_, rfl⟩
  rw [← H1.out]
  rfl
/-- A type's cells. -/
abbrev tyA (t : TyP) : Array Value := #[.int .u8 (t.t.kind : Int), .string t.t.name, .slice t.fa t.t.fields.length t.fc, .int .i64 t.t.elem, .int .i64 t.t.len]
abbrev zTyA : Array Value := #[.int .u8 0, .string ⟨#[]⟩, .slice none 0 0, .int .i64 0, .int .i64 0]
theorem infoT : (Tryd.prog.info? 57).map (·.size) = some 5 := by kernel_rfl
/-- The type of a number, if it is one of the table's and of one of these kinds. -/
def fnd (tys : List TyP) (x : Int) (ks : List Nat) : Option TyP := if x < 16 ∨ (tys.length : Int) ≤ x - 16 then none else if (tys.getD (x - 16).toNat zTP).t.kind ∈ ks then some (tys.getD (x - 16).toNat zTP) else none
def FndRet (w : World) (r : Option TyP) (e : Ending) (w' : World) : Prop := (match r with | none => e = .returned (.tuple #[.agg zTyA, .bool false]) | some t => e = .returned (.tuple #[.agg (tyA t), .bool true])) ∧ Below w.heap.size w w'
theorem own5' {w : World} {g : Nat} {a0 a1 a2 a3 a4 : Value} {t : TypeId} (h : Own w g #[a0, a1, a2, a3, a4] t) : w.cell? ⟨g, 0, none⟩ = some a0 ∧ w.cell? ⟨g, 1, none⟩ = some a1 ∧ w.cell? ⟨g, 2, none⟩ = some a2 ∧ w.cell? ⟨g, 3, none⟩ = some a3 ∧ w.cell? ⟨g, 4, none⟩ = some a4 ∧ ∀ j, w.frozen? ⟨g, j, none⟩ = false := ⟨h.cell 0, h.cell 1, h.cell 2, h.cell 3, h.cell 4, h.froz⟩
theorem tyCells {w : World} {a : Option Addr} {tys : List TyP} (h : RowAt w a 5 tys.length (tyF tys)) {i : Nat} (hi : i < tys.length) (t : TyP) (ht : tys.getD i zTP = t) : ∃ b off, a = some ⟨b, off, none⟩ ∧ w.cell? ⟨b, off + i * 5, none⟩ = some (.int .u8 (t.t.kind : Int)) ∧ w.cell? ⟨b, off + i * 5 + 1, none⟩ = some (.string t.t.name) ∧ w.cell? ⟨b, off + i * 5 + 2, none⟩ = some (.slice t.fa t.t.fields.length t.fc) ∧ w.cell? ⟨b, off + i * 5 + 3, none⟩ = some (.int .i64 t.t.elem) ∧ w.cell? ⟨b, off + i * 5 + 4, none⟩ = some (.int .i64 t.t.len) := by
  obtain ⟨b, off, e, hc⟩ := h.at hi
  subst ht
  exact ⟨b, off, e, hc 0 (by omega), hc 1 (by omega), hc 2 (by omega), hc 3 (by omega), hc 4 (by omega)⟩
set_option maxHeartbeats 2000000 in
set_option maxRecDepth 100000 in
theorem find_as {w : World} {a : Option Addr} {n c : Nat} {tys : List TyP} (hr : RowAt w a 5 tys.length (tyF tys)) (hn : n = tys.length) (hm : n ≤ 140737488355328) (hk : ∀ t ∈ tys, t.t.kind < 256) (x : Int) (h0 : 0 ≤ x) (h1 : x ≤ 65535) {g kn kc : Nat} {ks : List Nat} (h : KsAt w g ks) (hkn : kn = ks.length) :
    Calls Tryd.prog 70 #[.slice a n c, .int .i64 x, .slice (some ⟨g, 0, none⟩) kn kc] w (FndRet w (fnd tys x ks)) := by
  have o0 := Own.new w zTyA 57
  have b0 := new_below w (.cells zTyA 57)
  have hr0 := hr.below b0
  have hk0 := h.below b0
  obtain ⟨R, HR⟩ : ∃ R, Hid (fnd tys x ks = R) := ⟨_, rfl⟩
  rw [HR.out]
  have HN : Hid (n = tys.length) := hn
  have HK : Hid (∀ t ∈ tys, t.t.kind < 256) := hk
  by_cases hlo : x < 16
  · obtain rfl : none = R := by rw [← HR.out]; unfold fnd; rw [if_pos (.inl hlo)]
    clear hr hr0 h hk0 hk hn hm HR
    go_enter Tryd.func70, Tryd.ntmps70
    go_upto_region 3 with fail
    generalize w.alloc (.cells zTyA 57) = w1 at *
    go_wp2_with (refine wpList_put rfl 57 (.tmp 6) (.tmp 29) rfl rfl w.heap.size 0 rfl rfl o0 infoT rfl (by simp) rfl ?_; intro w5 o5 g5)
    refine bodyPost_cell2 (g := w.heap.size) (t := 57) rfl rfl rfl o5 Tryd.underlying57 rfl (by kernel_rfl) ?_
    exact ⟨rfl, b0.grown g5 b0.size (fun k e => by cases e; exact Nat.le_refl _)⟩
  · by_cases hhi : (n : Int) ≤ x - 16
    · obtain rfl : none = R := by rw [← HR.out]; unfold fnd; rw [if_pos (.inr (by rw [← HN.out]; exact hhi))]
      clear hr hr0 h hk0 hk hn hm HR
      go_enter Tryd.func70, Tryd.ntmps70
      go_upto_region 3 with fail
      generalize w.alloc (.cells zTyA 57) = w1 at *
      go_wp2_with (refine wpList_put rfl 57 (.tmp 6) (.tmp 29) rfl rfl w.heap.size 0 rfl rfl o0 infoT rfl (by simp) rfl ?_; intro w5 o5 g5)
      refine bodyPost_cell2 (g := w.heap.size) (t := 57) rfl rfl rfl o5 Tryd.underlying57 rfl (by kernel_rfl) ?_
      exact ⟨rfl, b0.grown g5 b0.size (fun k e => by cases e; exact Nat.le_refl _)⟩
    · obtain ⟨y, hy⟩ : ∃ y : Int, x = y + 16 := ⟨x - 16, by omega⟩
      subst hy
      have hy0 : 0 ≤ y := by omega
      have hyn : y < (n : Int) := by omega
      have hy6 : y ≤ 65535 := by omega
      have hin : y.toNat < tys.length := by omega
      obtain ⟨t, ht⟩ : ∃ t, tys.getD y.toNat zTP = t := ⟨_, rfl⟩
      have htk : t.t.kind < 256 := by rw [← ht]; exact hk _ (getD_in hin)
      obtain ⟨b, off, rfl, c0, c1, c2, c3, c4⟩ := tyCells hr0 hin t ht
      obtain ⟨B, hB⟩ := some_bool (t.t.kind ∈ ks)
      have hcall := contains_as (c := kc) hk0 hkn t.t.kind htk B hB
      have HX : Hid (fnd tys (y + 16) ks = if t.t.kind ∈ ks then some t else none) := by
        unfold Hid fnd
        rw [if_neg (by omega), show y + 16 - 16 = y by omega, ht]
      clear hr hr0 h hk0 hk hn hm ht hlo hhi h0 h1 hin htk hkn
      go_enter Tryd.func70, Tryd.ntmps70
      go_upto_region 1 with fail
      generalize w.alloc (.cells zTyA 57) = w1 at *
      go_wp2_with fail
      refine hcall.mono ?_
      rintro e w2 ⟨rfl, rfl⟩
      clear hcall
      cases B with
      | true =>
        obtain rfl : some t = R := by rw [← HR.out, HX.out, if_pos (hB.1 rfl)]
        clear hB HX HR
        go_wp2_with (refine wpList_put rfl 57 (.tmp 6) (.tmp 33) rfl rfl w.heap.size 0 rfl rfl o0 infoT rfl (by simp) rfl ?_; intro w5 o5 g5)
        refine bodyPost_cell2 (g := w.heap.size) (t := 57) rfl rfl rfl o5 Tryd.underlying57 rfl (by kernel_rfl) ?_
        exact ⟨rfl, b0.grown g5 b0.size (fun k e => by cases e; exact Nat.le_refl _)⟩
      | false =>
        obtain rfl : none = R := by rw [← HR.out, HX.out, if_neg (fun q => by have := hB.2 q; cases this)]
        clear hB HX HR
        go_wp2_with (refine wpList_put rfl 57 (.tmp 6) (.tmp 29) rfl rfl w.heap.size 0 rfl rfl o0 infoT rfl (by simp) rfl ?_; intro w5 o5 g5)
        refine bodyPost_cell2 (g := w.heap.size) (t := 57) rfl rfl rfl o5 Tryd.underlying57 rfl (by kernel_rfl) ?_
        exact ⟨rfl, b0.grown g5 b0.size (fun k e => by cases e; exact Nat.le_refl _)⟩
end Go.Proofs.YtjfdlphkmpkjdaaDoor
namespace Go.Proofs.YtjfdlphkmpkjdaaDoor
open Go.RowKit
set_option linter.unusedVariables false

theorem new_ints (w : World) (l : List Int) : RowAt (w.alloc (.cells (intV l).toArray 3)) (some ⟨w.heap.size, 0, none⟩) 1 l.length (inF l) := by
  have o := Own.new w (intV l).toArray 3
  refine .inr ⟨w.heap.size, 0, rfl, fun i hi d hd => ?_⟩
  rw [o.cell]
  have := intV_get l i hi d hd
  simpa using this
theorem takeL {w1 : World} {B : Nat} (hB : B ≤ w1.heap.size) (l : List Int) (hl : l.length ≤ 1000000) :
    Calls Tryd.prog 44 #[.slice (some ⟨w1.heap.size, 0, none⟩) l.length l.length] (w1.alloc (.cells (intV l).toArray 3)) fun e w' => ∃ a c, e = .returned (effV (.slice a l.length c) (.slice none 0 0)) ∧ IntNew w' B (.slice a l.length c) l ∧ Below w1.heap.size w1 w' := by
  have b0 := new_below w1 (.cells (intV l).toArray 3)
  refine (take_as (c := l.length) (new_ints w1 l) rfl (fun e => by cases e) (Nat.le_refl _) hl).mono ?_
  rintro e w' ⟨v, rfl, h1, h2⟩
  obtain ⟨a, c, rfl⟩ := h1.shape
  exact ⟨a, c, rfl, h1.mono (Nat.le_trans hB b0.size), b0.trans (h2.mono b0.size)⟩
theorem takeN {w1 : World} {B : Nat} (hB : B ≤ w1.heap.size) :
    Calls Tryd.prog 44 #[.slice none 0 0] w1 fun e w' => ∃ a c, e = .returned (effV (.slice a 0 c) (.slice none 0 0)) ∧ IntNew w' B (.slice a 0 c) [] ∧ Below w1.heap.size w1 w' := by
  refine (take_as (w := w1) (a := none) (n := 0) (c := 0) (xs := []) (.inl rfl) rfl (fun _ => rfl) (Nat.le_refl _) (by omega)).mono ?_
  rintro e w' ⟨v, rfl, h1, h2⟩
  obtain ⟨a, c, rfl⟩ := h1.shape
  exact ⟨a, c, rfl, h1.mono hB, h2⟩
theorem putL {w1 : World} {B : Nat} {tv : Value} {T : List Int} (hB : B ≤ w1.heap.size) (hT : IntNew w1 B tv T) (l : List Int) (hl : l.length ≤ 1000000) :
    Calls Tryd.prog 45 #[effV tv (.slice none 0 0), .slice (some ⟨w1.heap.size, 0, none⟩) l.length l.length] (w1.alloc (.cells (intV l).toArray 3)) fun e w' => ∃ a c, e = .returned (effV tv (.slice a l.length c)) ∧ IntNew w' B tv T ∧ IntNew w' B (.slice a l.length c) l ∧ Below w1.heap.size w1 w' := by
  have b0 := new_below w1 (.cells (intV l).toArray 3)
  refine (put_as (c := l.length) (Nat.le_trans hB b0.size) (hT.below b0) (new_ints w1 l) rfl (fun e => by cases e) (Nat.le_refl _) hl).mono ?_
  rintro e w' ⟨v, rfl, h1, h2, h3⟩
  obtain ⟨a, c, rfl⟩ := h2.shape
  exact ⟨a, c, rfl, h1, h2, b0.trans (h3.mono b0.size)⟩
/-- An effect of the call's own. -/
def EffRet (w : World) (R : List Int × List Int) (e : Ending) (w' : World) : Prop := ∃ ta tc pa pc, e = .returned (effV (.slice ta R.1.length tc) (.slice pa R.2.length pc)) ∧ IntNew w' w.heap.size (.slice ta R.1.length tc) R.1 ∧ IntNew w' w.heap.size (.slice pa R.2.length pc) R.2 ∧ Below w.heap.size w w'
abbrev zEff : Array Value := #[.slice none 0 0, .slice none 0 0]
theorem rowP (w1 : World) (l : List Int) : RowAt (w1.alloc (.cells (intV l).toArray 3)) (some ⟨w1.heap.size, 0, none⟩) 1 l.length (inF l) := new_ints w1 l
theorem rowA (w1 : World) (l : List Int) : RowAt (w1.alloc (.cells (intV l).toArray 3)).drew (some ⟨w1.heap.size, 0, none⟩) 1 l.length (inF l) := new_ints w1 l
theorem rowB (w1 : World) (l : List Int) (o : Obj) : RowAt ((w1.alloc (.cells (intV l).toArray 3)).alloc o).drew (some ⟨w1.heap.size, 0, none⟩) 1 l.length (inF l) :=
  have h : RowAt ((w1.alloc (.cells (intV l).toArray 3)).alloc o) (some ⟨w1.heap.size, 0, none⟩) 1 l.length (inF l) := (new_ints w1 l).below (new_below _ _)
  h
theorem rowC (w1 : World) (o : Obj) (l : List Int) : RowAt ((w1.alloc o).alloc (.cells (intV l).toArray 3)).drew (some ⟨w1.heap.size + 1, 0, none⟩) 1 l.length (inF l) := by
  have := new_ints (w1.alloc o) l
  rw [World.size_alloc] at this
  exact this
theorem belowA (w1 : World) (o : Obj) : Below w1.heap.size w1 (w1.alloc o).drew := below_drawn (new_below w1 o) 1
theorem belowAA (w1 : World) (o o' : Obj) : Below w1.heap.size w1 ((w1.alloc o).alloc o').drew := below_drawn ((new_below w1 o).alloc (new_below w1 o).size o') 1
theorem IntNew.set2 {w : World} {B g : Nat} {v : Value} {xs : List Int} {cs : Array Value} {t : TypeId} (h : IntNew w B v xs) (ho : Own w g cs t) (ht : 3 ≠ t) (x y : Value) : IntNew ((w.setCell ⟨g, 0, none⟩ x).setCell ⟨g, 1, none⟩ y) B v xs :=
  ⟨(h.row.set (h.row.ne ho ht) 0 x).set (h.row.ne ho ht) 1 y, h.new⟩
theorem below_set2 {w w' : World} {g : Nat} (h : Below w.heap.size w w') (hg : w.heap.size ≤ g) (x y : Value) : Below w.heap.size w ((w'.setCell ⟨g, 0, none⟩ x).setCell ⟨g, 1, none⟩ y) := (h.setCell hg x).setCell hg y
end Go.Proofs.YtjfdlphkmpkjdaaDoor
