/-
  A TYPE OF A TABLE: slices.Contains of kinds, find.
-/
import Derived.Test.YtibcakmodkbliaaTk1
namespace Go.Proofs.Ytibcakmodkbliaa
open Go.RowKit
set_option linter.unusedVariables false

/-- The few kinds of a list: where they lie. -/
def KsAt (w : World) (g : Nat) (ks : List Nat) : Prop := ks.length ≤ 2 ∧ (∀ c ∈ ks, c < 256) ∧ ∀ i, i < ks.length → w.cell? ⟨g, i, none⟩ = some (.int .u8 ((ks.getD i 0 : Nat) : Int))
theorem KsAt.below {w w' : World} {g : Nat} {ks : List Nat} (h : KsAt w g ks) (hb : Below w.heap.size w w') : KsAt w' g ks :=
  ⟨h.1, h.2.1, fun i hi => (hb.cell (p := ⟨g, i, none⟩) (World.block_lt_of_cell? w _ (h.2.2 i hi))).trans (h.2.2 i hi)⟩
def idx (k : Nat) : List Nat → Int
  | [] => -1
  | c :: r => if k = c then 0 else if idx k r = -1 then -1 else idx k r + 1
set_option maxHeartbeats 1000000 in
set_option maxRecDepth 100000 in
theorem index_as {w : World} {g c n : Nat} {ks : List Nat} (h : KsAt w g ks) (hn : n = ks.length) (k : Nat) (hk : k < 256) (b : Bool) (hb : b = true ↔ k ∈ ks) :
    Calls Try.prog 88 #[.slice (some ⟨g, 0, none⟩) n c, .int .u8 (k : Int)] w fun e w' => (∃ i : Int, e = .returned (.int .i64 i) ∧ decide (0 ≤ i) = b ∧ -1 ≤ i ∧ i ≤ 2) ∧ w = w' := by
  obtain ⟨h1, h2, h3⟩ := h
  have H3 : Hid (∀ i, i < n → w.cell? ⟨g, i, none⟩ = some (.int .u8 ((ks.getD i 0 : Nat) : Int))) := by rw [hn]; exact h3
  have HB : Hid (b = true ↔ k ∈ ks) := hb
  have HN : Hid (n = ks.length) := hn
  have hn2 : n ≤ 2 := by omega
  clear h1 h2 h3 hb hn
  go_enter Try.func88, Try.ntmps88
  go_wp2_with fail
  go_loopw [8] (fun i wr => ∃ j : Nat, j ≤ n ∧ i = .int .i64 (j : Int) ∧ wr = w ∧ ∀ q, q < j → ¬ ks.getD q 0 = k) (fun i _ => n - (intOf i).toNat)
  case atStart => exact ⟨0, Nat.zero_le _, rfl, rfl, fun q hq => by omega⟩
  case round =>
    obtain ⟨j, hj, rfl, rfl, hpre⟩ := hrel
    by_cases hlt : j < n
    · have hc := H3.out j hlt
      by_cases he : ks.getD j 0 = k
      · obtain rfl : b = true := HB.out.2 (by rw [← he]; exact getD_in (by rw [← HN.out]; exact hlt))
        rw [he] at hc
        clear hpre he hk
        go_wp2
        go_ret
        exact ⟨⟨_, rfl, by simp, by omega, by omega⟩, by trivial⟩
      · have hne : ((k : Int) == ((ks.getD j 0 : Nat) : Int)) = false := by rw [beq_eq_false_iff_ne]; omega
        have HP : Hid (∀ q, q < j + 1 → ¬ ks.getD q 0 = k) := fun q hq => by
          by_cases e : q = j
          · subst e; exact he
          · exact hpre q (by omega)
        clear hpre he
        generalize ((ks.getD j 0 : Nat) : Int) = V at *
        go_wp2
        go_roundw
        case rel => exact ⟨j + 1, hlt, by go_num, by trivial, HP.out⟩
        case measure => simp [intOf]; omega
    · obtain rfl : b = false := iff_false HB.out (fun q => by
        obtain ⟨i, hi, e⟩ := List.mem_iff_getElem.1 q
        exact hpre i (by have := HN.out; omega) (by simp [List.getD, hi, e]))
      clear hpre
      go_wp2
      go_ret
      exact ⟨⟨-1, rfl, by simp, by omega, by omega⟩, rfl⟩
set_option maxHeartbeats 1000000 in
set_option maxRecDepth 100000 in
theorem contains_as {w : World} {g c n : Nat} {ks : List Nat} (h : KsAt w g ks) (hn : n = ks.length) (k : Nat) (hk : k < 256) (b : Bool) (hb : b = true ↔ k ∈ ks) :
    Calls Try.prog 87 #[.slice (some ⟨g, 0, none⟩) n c, .int .u8 (k : Int)] w fun e w' => e = .returned (.bool b) ∧ w = w' := by
  have hC := index_as (c := c) h hn k hk b hb
  clear h hb hk hn
  go_enter Try.func87, Try.ntmps87
  go_wp2_with fail
  refine hC.mono ?_
  rintro e w1 ⟨⟨i, rfl, h1, h2, h3⟩, rfl⟩
  clear hC
  have H1 : Hid (decide (0 ≤ i) = b) := h1
  clear h1
  go_wp2
  go_ret
  refine ⟨?_, rfl⟩
  rw [← H1.out]
  rfl
/-- A type's cells. -/
abbrev tyA (t : TyP) : Array Value := #[.int .u8 (t.t.kind : Int), .string t.t.name, .slice t.fa t.t.fields.length t.fc, .int .i64 t.t.elem, .int .i64 t.t.len]
abbrev zTyA : Array Value := #[.int .u8 0, .string ⟨#[]⟩, .slice none 0 0, .int .i64 0, .int .i64 0]
theorem infoT : (Try.prog.info? 36).map (·.size) = some 5 := by kernel_rfl
/-- The type of a number, if it is one of the table's and of one of these kinds. -/
def fnd (tys : List TyP) (x : Int) (ks : List Nat) : Option TyP := if x < 16 ∨ (tys.length : Int) ≤ x - 16 then none else if (tys.getD (x - 16).toNat zTP).t.kind ∈ ks then some (tys.getD (x - 16).toNat zTP) else none
def FndRet (w : World) (r : Option TyP) (e : Ending) (w' : World) : Prop := (match r with | none => e = .returned (.tuple #[.agg zTyA, .bool false]) | some t => e = .returned (.tuple #[.agg (tyA t), .bool true])) ∧ Below w.heap.size w w'
theorem own5' {w : World} {g : Nat} {a0 a1 a2 a3 a4 : Value} {t : TypeId} (h : Own w g #[a0, a1, a2, a3, a4] t) : w.cell? ⟨g, 0, none⟩ = some a0 ∧ w.cell? ⟨g, 1, none⟩ = some a1 ∧ w.cell? ⟨g, 2, none⟩ = some a2 ∧ w.cell? ⟨g, 3, none⟩ = some a3 ∧ w.cell? ⟨g, 4, none⟩ = some a4 ∧ ∀ j, w.frozen? ⟨g, j, none⟩ = false := ⟨h.cell 0, h.cell 1, h.cell 2, h.cell 3, h.cell 4, h.froz⟩
theorem tyCells {w : World} {a : Option Addr} {tys : List TyP} (h : RowAt w a 5 tys.length (tyF tys)) {i : Nat} (hi : i < tys.length) (t : TyP) (ht : tys.getD i zTP = t) : ∃ b off, a = some ⟨b, off, none⟩ ∧ w.cell? ⟨b, off + i * 5, none⟩ = some (.int .u8 (t.t.kind : Int)) ∧ w.cell? ⟨b, off + i * 5 + 1, none⟩ = some (.string t.t.name) ∧ w.cell? ⟨b, off + i * 5 + 2, none⟩ = some (.slice t.fa t.t.fields.length t.fc) ∧ w.cell? ⟨b, off + i * 5 + 3, none⟩ = some (.int .i64 t.t.elem) ∧ w.cell? ⟨b, off + i * 5 + 4, none⟩ = some (.int .i64 t.t.len) := by
  obtain ⟨b, off, e, hc⟩ := h.at hi
  subst ht
  exact ⟨b, off, e, hc 0 (by omega), hc 1 (by omega), hc 2 (by omega), hc 3 (by omega), hc 4 (by omega)⟩
set_option maxHeartbeats 2000000 in
set_option maxRecDepth 100000 in
theorem find_as {w : World} {a : Option Addr} {n c : Nat} {tys : List TyP} (hr : RowAt w a 5 tys.length (tyF tys)) (hn : n = tys.length) (hm : n ≤ 140737488355328) (hk : ∀ t ∈ tys, t.t.kind < 256) (x : Int) (h0 : 0 ≤ x) (h1 : x ≤ 65535) {g kn kc : Nat} {ks : List Nat} (h : KsAt w g ks) (hkn : kn = ks.length) :
    Calls Try.prog 83 #[.slice a n c, .int .i64 x, .slice (some ⟨g, 0, none⟩) kn kc] w (FndRet w (fnd tys x ks)) := by
  have o0 := Own.new w zTyA 36
  have b0 := new_below w (.cells zTyA 36)
  have hr0 := hr.below b0
  have hk0 := h.below b0
  obtain ⟨R, HR⟩ : ∃ R, Hid (fnd tys x ks = R) := ⟨_, rfl⟩
  rw [HR.out]
  have HN : Hid (n = tys.length) := hn
  have HK : Hid (∀ t ∈ tys, t.t.kind < 256) := hk
  by_cases hlo : x < 16
  · obtain rfl : none = R := by rw [← HR.out]; unfold fnd; rw [if_pos (.inl hlo)]
    clear hr hr0 h hk0 hk hn hm HR
    go_enter Try.func83, Try.ntmps83
    go_upto_region 3 with fail
    generalize w.alloc (.cells zTyA 36) = w1 at *
    go_wp2_with (refine wpList_put rfl 36 (.tmp 6) (.tmp 29) rfl rfl w.heap.size 0 rfl rfl o0 infoT rfl (by simp) rfl ?_; intro w5 o5 g5)
    refine bodyPost_cell2 (g := w.heap.size) (t := 36) rfl rfl rfl o5 Try.underlying36 rfl (by kernel_rfl) ?_
    exact ⟨rfl, b0.grown g5 b0.size (fun k e => by cases e; exact Nat.le_refl _)⟩
  · by_cases hhi : (n : Int) ≤ x - 16
    · obtain rfl : none = R := by rw [← HR.out]; unfold fnd; rw [if_pos (.inr (by rw [← HN.out]; exact hhi))]
      clear hr hr0 h hk0 hk hn hm HR
      go_enter Try.func83, Try.ntmps83
      go_upto_region 3 with fail
      generalize w.alloc (.cells zTyA 36) = w1 at *
      go_wp2_with (refine wpList_put rfl 36 (.tmp 6) (.tmp 29) rfl rfl w.heap.size 0 rfl rfl o0 infoT rfl (by simp) rfl ?_; intro w5 o5 g5)
      refine bodyPost_cell2 (g := w.heap.size) (t := 36) rfl rfl rfl o5 Try.underlying36 rfl (by kernel_rfl) ?_
      exact ⟨rfl, b0.grown g5 b0.size (fun k e => by cases e; exact Nat.le_refl _)⟩
    · obtain ⟨y, hy⟩ : ∃ y : Int, x = y + 16 := ⟨x - 16, by omega⟩
      subst hy
      have hy0 : 0 ≤ y := by omega
      have hyn : y < (n : Int) := by omega
      have hy6 : y ≤ 65535 := by omega
      have hin : y.toNat < tys.length := by omega
      obtain ⟨t, ht⟩ : ∃ t, tys.getD y.toNat zTP = t := ⟨_, rfl⟩
      have htk : t.t.kind < 256 := by rw [← ht]; exact hk _ (getD_in hin)
      obtain ⟨b, off, rfl, c0, c1, c2, c3, c4⟩ := tyCells hr0 hin t ht
      obtain ⟨B, hB⟩ := some_bool (t.t.kind ∈ ks)
      have hcall := contains_as (c := kc) hk0 hkn t.t.kind htk B hB
      have HX : Hid (fnd tys (y + 16) ks = if t.t.kind ∈ ks then some t else none) := by
        unfold Hid fnd
        rw [if_neg (by omega), show y + 16 - 16 = y by omega, ht]
      clear hr hr0 h hk0 hk hn hm ht hlo hhi h0 h1 hin htk hkn
      go_enter Try.func83, Try.ntmps83
      go_upto_region 1 with fail
      generalize w.alloc (.cells zTyA 36) = w1 at *
      go_wp2_with fail
      refine hcall.mono ?_
      rintro e w2 ⟨rfl, rfl⟩
      clear hcall
      cases B with
      | true =>
        obtain rfl : some t = R := by rw [← HR.out, HX.out, if_pos (hB.1 rfl)]
        clear hB HX HR
        go_wp2_with (refine wpList_put rfl 36 (.tmp 6) (.tmp 33) rfl rfl w.heap.size 0 rfl rfl o0 infoT rfl (by simp) rfl ?_; intro w5 o5 g5)
        refine bodyPost_cell2 (g := w.heap.size) (t := 36) rfl rfl rfl o5 Try.underlying36 rfl (by kernel_rfl) ?_
        exact ⟨rfl, b0.grown g5 b0.size (fun k e => by cases e; exact Nat.le_refl _)⟩
      | false =>
        obtain rfl : none = R := by rw [← HR.out, HX.out, if_neg (fun q => by have := hB.2 q; cases this)]
        clear hB HX HR
        go_wp2_with (refine wpList_put rfl 36 (.tmp 6) (.tmp 29) rfl rfl w.heap.size 0 rfl rfl o0 infoT rfl (by simp) rfl ?_; intro w5 o5 g5)
        refine bodyPost_cell2 (g := w.heap.size) (t := 36) rfl rfl rfl o5 Try.underlying36 rfl (by kernel_rfl) ?_
        exact ⟨rfl, b0.grown g5 b0.size (fun k e => by cases e; exact Nat.le_refl _)⟩
end Go.Proofs.Ytibcakmodkbliaa
