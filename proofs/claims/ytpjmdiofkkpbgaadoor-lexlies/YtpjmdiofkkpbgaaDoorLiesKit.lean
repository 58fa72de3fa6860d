/-
  THE WALK of LexLies.
-/
import Derived.Test.YtpjmdiofkkpbgaaDoorNamesWalk
import Derived.Test.YtpjmdiofkkpbgaaDoorTokLaw
import Derived.Test.YtpjmdiofkkpbgaaDoorInsMath
import Derived.Deep.QuietTactic
import Derived.BigQuiet
import Derived.Deep.RegionWith
import Derived.Deep.RegionHeld3
import Derived.Deep.DeepCutAuto
import Derived.Deep.Cut
namespace Go.Proofs.YtpjmdiofkkpbgaaDoor
open Go.RowKit
set_option linter.unusedVariables false

def endAt (at0 : Nat) (ts : List (Nat × List Nat × Nat × Nat × Nat)) : Nat → Nat
  | 0 => at0
  | k + 1 => (ts.getD k default).2.2.2.2
theorem chain_at (bound : Nat) : ∀ (ts : List (Nat × List Nat × Nat × Nat × Nat)) (at0 : Nat), chain bound at0 ts → ∀ k, k < ts.length →
    endAt at0 ts k ≤ (ts.getD k default).2.2.2.1 ∧ (ts.getD k default).2.2.2.1 < (ts.getD k default).2.2.2.2 ∧ (ts.getD k default).2.2.2.2 ≤ bound := by
  intro ts
  induction ts with
  | nil => intro at0 _ k hk; simp at hk
  | cons t r ih =>
    intro at0 h k hk
    obtain ⟨h1, h2, h3, h4⟩ := h
    cases k with
    | zero => exact ⟨h1, h2, h3⟩
    | succ k =>
      have := ih _ h4 k (by simpa using hk)
      cases k with
      | zero => exact this
      | succ k => exact this
theorem lies_at (s : ByteArray) (hs : s.size ≤ 8192) (ts : List (Nat × List Nat × Nat × Nat × Nat)) (h : tokens (bytesN s) = .ok ts) (k : Nat) (hk : k < ts.length) :
    ∃ kd tx nn A E, ts.getD k default = (kd, tx, nn, A, E) ∧ endAt 0 ts k ≤ A ∧ A < E ∧ E ≤ s.size ∧ tokens (bytesN (s.extract A E)) = .ok [(kd, tx, nn, 0, E - A)] ∧ endAt 0 ts (k + 1) = E := by
  have hl : (bytesN s).length ≤ 8192 := by rw [bytesN_length]; exact hs
  unfold tokens at h
  rw [if_neg (by omega)] at h
  have hc := chain_at _ _ _ (TK_chain _ _ (Nat.le_refl _) _ _ _ h) k hk
  have he : ts.getD k default = ts[k] := by rw [List.getD_eq_getElem?_getD, List.getElem?_eq_getElem hk]; rfl
  obtain ⟨len, q1, q2, q3⟩ := TK_alone _ _ (Nat.le_refl _) (by omega) _ _ _ h ts[k] (List.getElem_mem hk)
  rw [← he] at q1 q2 q3
  obtain ⟨⟨kd, tx, nn, A, E⟩, hq⟩ : ∃ q, ts.getD k default = q := ⟨_, rfl⟩
  rw [hq] at hc q1 q2 q3
  simp only at hc q1 q2 q3
  refine ⟨kd, tx, nn, A, E, hq, hc.1, hc.2.1, by rw [bytesN_length] at hc; omega, ?_, by show (ts.getD k default).2.2.2.2 = E; rw [hq]⟩
  rw [bytesN_extract, show E - A = len by omega]
  rw [Nat.sub_zero] at q3
  exact q3
theorem lies_place (s : ByteArray) (ts : List (Nat × List Nat × Nat × Nat × Nat)) (K : Nat) : placeOf 0 (bytesN s) ts K = if K < ts.length then (ts.getD K default).2.2.2.1 else s.size := by
  unfold placeOf
  split
  · rename_i t h
    have hk : K < ts.length := by
      rcases Nat.lt_or_ge K ts.length with q | q
      · exact q
      · rw [List.getElem?_eq_none q] at h; cases h
    rw [if_pos hk, List.getD_eq_getElem?_getD, h]; rfl
  · rename_i h
    rw [if_neg (by rw [List.getElem?_eq_none_iff] at h; omega), bytesN_length]
theorem lies_shift (ts : List (Nat × List Nat × Nat × Nat × Nat)) (K d i : Nat) (hi : i < ts.length) (hK : K ≤ ts.length) :
    (ts.take K ++ (ts.drop K).map (shiftK d)).getD i default = if K ≤ i then shiftK d (ts.getD i default) else ts.getD i default := by
  rw [List.getD_eq_getElem?_getD, List.getD_eq_getElem?_getD, List.getElem?_eq_getElem hi]
  split
  · rename_i h
    rw [List.getElem?_append_right (by rw [List.length_take]; omega), List.length_take, List.getElem?_map, List.getElem?_drop, show K + (i - min K ts.length) = i by omega, List.getElem?_eq_getElem hi]; rfl
  · rename_i h
    rw [List.getElem?_append_left (by rw [List.length_take]; omega), List.getElem?_take, if_pos (by omega), List.getElem?_eq_getElem hi]
set_option maxRecDepth 100000 in
set_option maxHeartbeats 1000000 in
theorem lexLies_no (s : ByteArray) (cut kind : Int) (hbig : ¬ 8192 < s.size) (p k : Nat) (HT : Hid (tokens (bytesN s) = .error (p, k))) (hk0 : ((k : Int) == 0) = false) (hp : p ≤ s.size) (w : World) (HL : Hid (Laid w)) : Calls Tryd.prog 6 #[.string s, .int .i64 cut, .int .i64 kind] w fun e w' => e = .returned (.bool true) ∧ Below w.heap.size w w' := by
  go_enter Tryd.func6, Tryd.ntmps6
  go_wp2_with fail
  refine (tok_no (by omega) p k HT.out HL.out).mono ?_
  rintro e w1 ⟨rfl, bel1⟩
  have B1 : Hid (Below w.heap.size w w1) := bel1
  clear bel1
  go_wp2_with fail
  refine (works_any _ (HL.out.on B1.out)).mono ?_
  rintro e w8 ⟨rfl, bel8⟩
  go_wp2
  go_ret
  exact ⟨rfl, below_chain B1.out bel8 (Nat.le_refl _)⟩

theorem tok_one {w : World} {s : ByteArray} (h : s.size ≤ 1048576) (kd : Nat) (tx : List Nat) (nn len : Nat) (X : ByteArray) (hX : strN tx = X) (ht : tokens (bytesN s) = .ok [(kd, tx, nn, 0, len)]) (hL : Laid w) :
    Calls Tryd.prog 9 #[.string s] w fun e w' => ∃ g cap, e = .returned (.tuple #[.slice (some ⟨g, 0, none⟩) 1 cap, .int .i64 0, .int .i64 0]) ∧ w'.cell? ⟨g, 0, none⟩ = some (.int .u8 (kd : Int)) ∧ w'.cell? ⟨g, 1, none⟩ = some (.string X) ∧ w'.cell? ⟨g, 2, none⟩ = some (.int .u64 (nn : Int)) ∧ Below w.heap.size w w' := by
  refine (tok_ok h _ ht hL).mono ?_
  rintro e w3 ⟨v3, rfl, own3, bel3⟩
  obtain ⟨ao, cap, rfl⟩ := own_form own3
  have own' := own3
  rcases own3.2 with ⟨q, _⟩ | ⟨g, cap', cur, q, _⟩
  · simp at q
  simp only [Value.slice.injEq] at q
  obtain ⟨rfl, _, rfl⟩ := q
  exact ⟨g, cap, rfl, own'.cellAt 0 (by simp), by rw [own'.cellAt 1 (by simp), ← hX]; rfl, own'.cellAt 2 (by simp), bel3⟩
def BlOk (bl : ByteArray) : Prop := insB (bytesN bl) ∧ bl.size ≤ 7
theorem bl0 : BlOk ⟨#[32]⟩ := ⟨ins_four.1, by decide⟩
theorem bl1 : BlOk ⟨#[10]⟩ := ⟨ins_four.2.1, by decide⟩
theorem bl2 : BlOk ⟨#[9, 32, 47, 47, 32, 120, 10]⟩ := ⟨ins_four.2.2.1, by decide⟩
theorem bl3 : BlOk ⟨#[13, 47, 47, 10]⟩ := ⟨ins_four.2.2.2, by decide⟩
theorem bytesN_app (a b : ByteArray) : bytesN (a ++ b) = bytesN a ++ bytesN b := by
  unfold bytesN; simp
theorem lies_ins (s bl : ByteArray) (hs : s.size ≤ 8192) (hbl : BlOk bl) (ts : List (Nat × List Nat × Nat × Nat × Nat)) (h : tokens (bytesN s) = .ok ts) (K P : Nat) (hK : K ≤ ts.length) (hP : placeOf 0 (bytesN s) ts K = P) (hPs : P ≤ s.size) :
    tokens (bytesN (s.extract 0 P ++ bl ++ s.extract P s.size)) = .ok (ts.take K ++ (ts.drop K).map (shiftK bl.size)) := by
  have h1 := tokens_ins (bytesN bl) hbl.1 (by rw [bytesN_length]; exact hbl.2) (bytesN s) (by rw [bytesN_length]; exact hs) ts h K hK
  rw [hP, bytesN_length] at h1
  rw [bytesN_app, bytesN_app, bytesN_extract, bytesN_extract, List.drop_zero, Nat.sub_zero, List.append_assoc, List.take_of_length_le (l := (bytesN s).drop P) (by rw [List.length_drop, bytesN_length]; omega)]
  exact h1
theorem tok_ins {w : World} {s : ByteArray} (h : s.size ≤ 1048576) (ts : List (Nat × List Nat × Nat × Nat × Nat)) (k : Nat) (hk : ts.length = k) (ht : tokens (bytesN s) = .ok ts) (hL : Laid w) :
    Calls Tryd.prog 9 #[.string s] w fun e w' => ∃ am cm, e = .returned (.tuple #[.slice am k cm, .int .i64 0, .int .i64 0]) ∧ TokLies w' am ts ∧ (∀ b, am = some ⟨b, 0, none⟩ → b < w'.heap.size) ∧ Below w.heap.size w w' := by
  refine (tok_ok h _ ht hL).mono ?_
  rintro e w3 ⟨v3, rfl, own3, bel3⟩
  rw [hk] at own3
  obtain ⟨ao, cap, rfl⟩ := own_form own3
  exact ⟨ao, cap, rfl, lies_own own3 hk, fun b hb => (own_block own3 b hb).2, bel3⟩
def LiesRel (w1 : World) (n : Nat) (ts : List (Nat × List Nat × Nat × Nat × Nat)) (e i : Value) (wr : World) : Prop := ∃ k : Nat, k ≤ n ∧ i = .int .i64 k ∧ e = .int .i64 ((endAt 0 ts k : Nat) : Int) ∧ Below w1.heap.size w1 wr
def LiesRel2 (w1 : World) (n : Nat) (i : Value) (wr : World) : Prop := ∃ k : Nat, k ≤ n ∧ i = .int .i64 k ∧ Below w1.heap.size w1 wr
theorem lies_ins2 (s bl : ByteArray) (D : Nat) (hD : bl.size = D) (hs : s.size ≤ 8192) (hbl : BlOk bl) (ts : List (Nat × List Nat × Nat × Nat × Nat)) (h : tokens (bytesN s) = .ok ts) (K P : Nat) (hK : K ≤ ts.length) (hP : placeOf 0 (bytesN s) ts K = P) (hPs : P ≤ s.size) :
    tokens (bytesN (s.extract 0 P ++ bl ++ s.extract P s.size)) = .ok (ts.take K ++ (ts.drop K).map (shiftK D)) := by
  rw [← hD]; exact lies_ins s bl hs hbl ts h K P hK hP hPs
end Go.Proofs.YtpjmdiofkkpbgaaDoor
