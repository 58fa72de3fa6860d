/-
  CONTRACTS of what lex calls of the library: Clone, IndexByte, ParseUint to the base 10.
-/
import Derived.Test.YteeoakbafbnkhaaDoorXSmall
import Derived.Test.YteeoakbafbnkhaaDoorNumber
import Derived.Test.YteeoakbafbnkhaaDoorShelf
namespace Go.Proofs.YteeoakbafbnkhaaDoor
open Go.RowKit
set_option linter.unusedVariables false

/-- What the world must hold: the library's variable ErrRange, an interface's value. -/
def Laid (w : World) : Prop := 2 < w.heap.size ∧ ∃ te pe, w.cell? ⟨2, 0, none⟩ = some (.iface te pe)
theorem Laid.below {w w' : World} {B : Nat} (h : Laid w) (hb : Below B w w') (hB : 2 < B) : Laid w' := by
  obtain ⟨h1, te, pe, h2⟩ := h
  exact ⟨Nat.lt_of_lt_of_le h1 hb.size, te, pe, by rw [hb.cell (p := ⟨2, 0, none⟩) hB]; exact h2⟩
theorem Laid.on {w w' : World} (h : Laid w) (hb : Below w.heap.size w w') : Laid w' := h.below hb h.1
theorem below_chain {B : Nat} {w w1 w2 : World} (h1 : Below B w w1) (h2 : Below w1.heap.size w1 w2) (hB : B ≤ w.heap.size) : Below B w w2 :=
  h1.trans (h2.mono (Nat.le_trans hB h1.size))

theorem xclone_any (s : ByteArray) (h : s.size ≤ 1048576) (w : World) :
    Calls Tryd.prog 63 #[.string s] w fun e w' => e = .returned (.string s) ∧ Below w.heap.size w w' := by
  have HC := Any.stringslite_Clone Tryd.laysM316 s w (by omega)
  go_enter Tryd.func63, Tryd.ntmps63
  go_wp2_with fail
  refine HC.mono ?_
  rintro e w1 ⟨rfl, hb⟩
  go_wp2
  go_ret
  exact ⟨rfl, hb⟩

/-! ### ParseUint of digits -/
theorem valF_ge (l : List Nat) : ∀ n : Nat, n ≤ valF n l := by
  induction l with
  | nil => intro n; exact Nat.le_refl _
  | cons c r ih => intro n; exact Nat.le_trans (by omega) (ih (10 * n + (c - 48)))
theorem parse_digits (M : Nat) (hM : M ≤ 18446744073709551615) (l : List UInt8) : ∀ acc : Nat, (∀ c ∈ l, digitB c.toNat = true) → acc ≤ M →
    Lib.parseUintM M acc l = if valF acc (l.map UInt8.toNat) ≤ M then .ok (valF acc (l.map UInt8.toNat)) else .range := by
  induction l with
  | nil => intro acc _ h; simp [Lib.parseUintM, valF, h]
  | cons c r ih =>
    intro acc hd hacc
    have hc : 48 ≤ c.toNat ∧ c.toNat ≤ 57 := by simpa [digitB] using hd c (by simp)
    have hstep : valF acc ((c :: r).map UInt8.toNat) = valF (acc * 10 + (c.toNat - 48)) (r.map UInt8.toNat) := by
      show valF (10 * acc + (c.toNat - 48)) _ = _
      rw [Nat.mul_comm]
    have hge := valF_ge (r.map UInt8.toNat) (acc * 10 + (c.toNat - 48))
    rw [Lib.parseUintM, if_pos hc, hstep]
    split
    · rw [if_neg (by omega)]
    · split
      · rw [if_neg (by omega)]
      · exact ih _ (fun d hd' => hd d (List.mem_cons_of_mem _ hd')) (by omega)
theorem parse_ds (s : ByteArray) (B T : Nat) (hT : 2 ^ B - 1 = T) (hT2 : T ≤ 18446744073709551615) (hne : bytesN s ≠ []) (hd : ∀ c ∈ bytesN s, digitB c = true) :
    Lib.parseUintB B s.data.toList = if valN (bytesN s) ≤ T then .ok (valN (bytesN s)) else .range := by
  unfold Lib.parseUintB
  rw [if_neg (fun e => hne (by unfold bytesN; rw [e]; rfl)), hT]
  exact parse_digits T hT2 s.data.toList 0 (fun c hc => hd _ (List.mem_map.2 ⟨c, hc, rfl⟩)) (Nat.zero_le _)
def bitsOf (T : Nat) : Int := if T = 255 then 8 else if T = 4294967295 then 32 else 64
theorem xparse_ok (s : ByteArray) (h : s.size ≤ 1048576) (V T : Nat) (hT : T = 255 ∨ T = 4294967295 ∨ T = 18446744073709551615) (hne : bytesN s ≠ []) (hd : ∀ c ∈ bytesN s, digitB c = true) (hV : valN (bytesN s) = V) (hle : V ≤ T) (w : World) :
    Calls Tryd.prog 64 #[.string s, .int .i64 10, .int .i64 (bitsOf T)] w fun e w' => e = .returned (.tuple #[.int .u64 (V : Int), .nilIface]) ∧ Below w.heap.size w w' := by
  subst hV
  rcases hT with rfl | rfl | rfl
  · refine (Any.strconv_ParseUint_10_at8_ok Tryd.laysPu14 s (by omega) _ ((parse_ds s 8 255 rfl (by omega) hne hd).trans (if_pos hle)) w).mono ?_
    rintro e w' ⟨rfl, rfl | rfl⟩
    · exact ⟨rfl, Below.refl _ _⟩
    · exact ⟨rfl, Lib.bytesWorld_below _ _ _⟩
  · refine (Any.strconv_ParseUint_10_at32_ok Tryd.laysPu14 s (by omega) _ ((parse_ds s 32 4294967295 rfl (by omega) hne hd).trans (if_pos hle)) w).mono ?_
    rintro e w' ⟨rfl, rfl | rfl⟩
    · exact ⟨rfl, Below.refl _ _⟩
    · exact ⟨rfl, Lib.bytesWorld_below _ _ _⟩
  · refine (Any.strconv_ParseUint_10_at64_ok Tryd.laysPu14 s (by omega) _ ((parse_ds s 64 18446744073709551615 rfl (by omega) hne hd).trans (if_pos hle)) w).mono ?_
    rintro e w' ⟨rfl, rfl | rfl⟩
    · exact ⟨rfl, Below.refl _ _⟩
    · exact ⟨rfl, Lib.bytesWorld_below _ _ _⟩
theorem xparse_no (s : ByteArray) (h : s.size ≤ 1048576) (V T : Nat) (hT : T = 255 ∨ T = 4294967295 ∨ T = 18446744073709551615) (hne : bytesN s ≠ []) (hd : ∀ c ∈ bytesN s, digitB c = true) (hV : valN (bytesN s) = V) (hle : ¬ V ≤ T) (w : World) (hL : Laid w) :
    Calls Tryd.prog 64 #[.string s, .int .i64 10, .int .i64 (bitsOf T)] w fun e w' => ∃ N, e = .returned (.tuple #[.int .u64 (T : Int), .iface 91 (.pointer (some ⟨N, 0, none⟩))]) ∧ Below w.heap.size w w' := by
  subst hV
  obtain ⟨_, te, pe, hc⟩ := hL
  rcases hT with rfl | rfl | rfl
  · refine (Any.strconv_ParseUint_10_at8_range Tryd.laysPu14 s (by omega) ((parse_ds s 8 255 rfl (by omega) hne hd).trans (if_neg hle)) _ w hc (.inr ⟨te, pe, rfl⟩)).mono ?_
    rintro e w' ⟨N, rfl, _, _, hb⟩
    exact ⟨N, rfl, hb⟩
  · refine (Any.strconv_ParseUint_10_at32_range Tryd.laysPu14 s (by omega) ((parse_ds s 32 4294967295 rfl (by omega) hne hd).trans (if_neg hle)) _ w hc (.inr ⟨te, pe, rfl⟩)).mono ?_
    rintro e w' ⟨N, rfl, _, _, hb⟩
    exact ⟨N, rfl, hb⟩
  · refine (Any.strconv_ParseUint_10_at64_range Tryd.laysPu14 s (by omega) ((parse_ds s 64 18446744073709551615 rfl (by omega) hne hd).trans (if_neg hle)) _ w hc (.inr ⟨te, pe, rfl⟩)).mono ?_
    rintro e w' ⟨N, rfl, _, _, hb⟩
    exact ⟨N, rfl, hb⟩

theorem xwidth_as (x : ByteArray) (T : Nat) (hT : topN (bytesN x) = T) (w : World) : Calls Tryd.prog 65 #[.string x] w fun e w' => e = .returned (.int .i64 (bitsOf T)) ∧ w = w' := by
  have HT : Hid (topN (bytesN x) = T) := hT
  clear hT
  by_cases h1 : bytesN x = [105, 56]
  · have e1 : (x.toList == [105, 56]) = true := by rw [list_is]; simp [h1]
    have HV : Hid (255 = T) := by unfold Hid; rw [← HT.out, h1]; rfl
    clear h1 HT
    go_enter Tryd.func65, Tryd.ntmps65
    go_wp2
    go_ret
    exact ⟨ret_int (by rw [← HV.out]; rfl), rfl⟩
  · have e1 : (x.toList == [105, 56]) = false := by rw [list_is]; simp [h1]
    by_cases h2 : bytesN x = [105, 51, 50]
    · have e2 : (x.toList == [105, 51, 50]) = true := by rw [list_is]; simp [h2]
      have HV : Hid (4294967295 = T) := by unfold Hid; rw [← HT.out, h2]; rfl
      clear h1 h2 HT
      go_enter Tryd.func65, Tryd.ntmps65
      go_wp2
      go_ret
      exact ⟨ret_int (by rw [← HV.out]; rfl), rfl⟩
    · have e2 : (x.toList == [105, 51, 50]) = false := by rw [list_is]; simp [h2]
      have HV : Hid (18446744073709551615 = T) := by unfold Hid; rw [← HT.out]; unfold topN; rw [if_neg h1, if_neg h2]
      clear h1 h2 HT
      go_enter Tryd.func65, Tryd.ntmps65
      go_wp2
      go_ret
      exact ⟨ret_int (by rw [← HV.out]; rfl), rfl⟩

/-! ### The first byte 10 -/
theorem index_run (l : List UInt8) (c : UInt8) : Lib.indexByte l c = if runN (fun d => decide (d ≠ c.toNat)) (l.map UInt8.toNat) < l.length then (runN (fun d => decide (d ≠ c.toNat)) (l.map UInt8.toNat) : Int) else -1 := by
  induction l with
  | nil => rfl
  | cons b r ih =>
    rw [Lib.indexByte]
    by_cases h : b = c
    · subst h
      rw [if_pos (by simp), List.map_cons, runN_stop _ _ _ (by simp)]
      simp
    · have hne : b.toNat ≠ c.toNat := fun e => h (UInt8.toNat_inj.mp e)
      rw [if_neg (by simpa using h), ih, List.map_cons, runN_cons _ _ _ (by simpa using hne)]
      generalize runN (fun d => decide (d ≠ c.toNat)) (r.map UInt8.toNat) = n
      by_cases hlt : n < r.length
      · rw [if_pos hlt, if_neg (by rw [beq_iff_eq]; omega), if_pos (by rw [List.length_cons]; omega)]; omega
      · rw [if_neg hlt, if_pos (by decide), if_neg (by rw [List.length_cons]; omega)]
def tenN (l : List Nat) : Nat := runN (fun d => decide (d ≠ 10)) l
theorem xindex_as (s : ByteArray) (v : Int) (hv : (if tenN (bytesN s) < (bytesN s).length then (tenN (bytesN s) : Int) else -1) = v) (w : World) :
    Calls Tryd.prog 50 #[.string s, .int .u8 10] w fun e w' => e = .returned (.int .i64 v) ∧ w = w' := by
  refine (Any.strings_IndexByte Tryd.lays137 s 10 w).mono ?_
  rintro e w' ⟨rfl, rfl⟩
  refine ⟨ret_int ?_, rfl⟩
  rw [← hv, index_run]
  have e1 : ((10 : Int).toNat.toUInt8).toNat = 10 := rfl
  rw [e1, bytesN_length]
  rfl
end Go.Proofs.YteeoakbafbnkhaaDoor
