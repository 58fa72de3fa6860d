/-
  THE WALK of LexNames.
-/
import Derived.Test.YtpjmdiofkkpbgaaDoorWorks
import Derived.Test.YtpjmdiofkkpbgaaDoorNamesMath
import Derived.Test.YtpjmdiofkkpbgaaDoorLiesMath
namespace Go.Proofs.YtpjmdiofkkpbgaaDoor
open Go.RowKit
set_option linter.unusedVariables false

theorem TK_errk : ∀ (N : Nat) (l : List Nat), l.length ≤ N → ∀ k at0 p e, TK k at0 l = .error (p, e) → 3 ≤ e := by
  intro N
  induction N with
  | zero =>
    intro l hl k at0 p e h
    rw [TK_end k at0 l (List.drop_eq_nil_of_le (by omega))] at h; cases h
  | succ N ih =>
    intro l hl k at0 p e h
    by_cases he : l.drop (blankN false l) = []
    · rw [TK_end k at0 l he] at h; cases h
    · by_cases hk : k = 32768
      · rw [TK_limit k at0 l he hk] at h; cases h; omega
      · cases ho : oneN (l.drop (blankN false l)) with
        | error x =>
          obtain ⟨q, e'⟩ := x
          rw [TK_err k at0 l q e' he hk ho] at h; cases h
          have := one_err _ _ _ ho
          omega
        | ok x =>
          obtain ⟨kd, tx, n, len⟩ := x
          have h1 := one_len _ _ _ _ _ ho
          rw [List.length_drop] at h1
          rw [TK_ok k at0 l kd tx n len he hk ho] at h
          cases hr : TK (k + 1) (at0 + blankN false l + len) (l.drop (blankN false l + len)) with
          | error x =>
            rw [hr] at h; cases h
            exact ih _ (by rw [List.length_drop]; omega) _ _ _ _ hr
          | ok rest => rw [hr] at h; cases h
theorem tokens_errk (l : List Nat) (p e : Nat) (h : tokens l = .error (p, e)) : 3 ≤ e := by
  unfold tokens at h
  split at h
  · cases h; omega
  · exact TK_errk l.length l (Nat.le_refl _) 0 0 p e h
theorem word_lt (c : Nat) (h : wordB c = true) : c < 256 := by
  simp [wordB, letterB, digitB] at h; omega
theorem tokens_name1 (l : List Nat) (tx : List Nat) (n a b : Nat) (h : tokens l = .ok [(1, tx, n, a, b)]) : ∀ c ∈ tx, c < 256 := by
  unfold tokens at h
  split at h
  · cases h
  · rcases TK_inv 0 0 l _ h with ⟨q, _⟩ | ⟨kd, tx', n', len, rest, _, _, ho, _, q⟩
    · cases q
    · cases q
      obtain ⟨c, r, _, _, rfl⟩ := one_kind1 _ _ _ _ ho
      intro c hc
      exact word_lt c (takeWhile_mem wordB _ c hc)

set_option maxRecDepth 100000 in
set_option maxHeartbeats 1000000 in
theorem lexNames_err (s : ByteArray) (hbig : ¬ 8192 < s.size) (p k : Nat) (HT : Hid (tokens (bytesN s) = .error (p, k))) (hk0 : ((k : Int) == 0) = false) (HN : Hid (nameB (bytesN s) = false)) (HK : Hid (keptB (bytesN s) = false)) (w : World) (HL : Hid (Laid w)) : Calls Tryd.prog 8 #[.string s] w fun e w' => e = .returned (.bool true) ∧ Below w.heap.size w w' := by
  go_enter Tryd.func8, Tryd.ntmps8
  go_wp2_with fail
  refine (tok_no (by omega) p k HT.out HL.out).mono ?_
  rintro e w2 ⟨rfl, bel⟩
  have B2 : Hid (Below w.heap.size w w2) := bel
  clear bel
  go_wp2_with fail
  refine (xname_as s false (by omega) HN.out _).mono ?_
  rintro e w3 ⟨rfl, bel⟩
  have B3 : Hid (Below w.heap.size w w3) := below_chain B2.out bel (Nat.le_refl _)
  clear bel
  go_wp2_with fail
  refine (xkept_as s false HK.out _).mono ?_
  rintro e w4 ⟨rfl, bel⟩
  have B4 : Hid (Below w.heap.size w w4) := below_chain B3.out bel (Nat.le_refl _)
  clear bel
  go_wp2_with fail
  refine (works_any _ (HL.out.on B4.out)).mono ?_
  rintro e w5 ⟨rfl, bel⟩
  go_wp2
  go_ret
  exact ⟨rfl, below_chain B4.out bel (Nat.le_refl _)⟩
set_option maxRecDepth 100000 in
set_option maxHeartbeats 1000000 in
theorem lexNames_many (s : ByteArray) (hbig : ¬ 8192 < s.size) (ts : List (Nat × List Nat × Nat × Nat × Nat)) (n : Nat) (hn : Hid (ts.length = n)) (HT : Hid (tokens (bytesN s) = .ok ts)) (hn1 : ((n : Int) == 1) = false) (HN : Hid (nameB (bytesN s) = false)) (HK : Hid (keptB (bytesN s) = false)) (w : World) (HL : Hid (Laid w)) : Calls Tryd.prog 8 #[.string s] w fun e w' => e = .returned (.bool true) ∧ Below w.heap.size w w' := by
  go_enter Tryd.func8, Tryd.ntmps8
  go_wp2_with fail
  refine (tok_ok (by omega) ts HT.out HL.out).mono ?_
  rintro e w2 ⟨v, rfl, own, bel⟩
  have B2 : Hid (Below w.heap.size w w2) := bel
  rw [hn.out] at own
  obtain ⟨ao, cap, rfl⟩ := own_form own
  clear bel own
  go_wp2_with fail
  refine (xname_as s false (by omega) HN.out _).mono ?_
  rintro e w3 ⟨rfl, bel⟩
  have B3 : Hid (Below w.heap.size w w3) := below_chain B2.out bel (Nat.le_refl _)
  clear bel
  go_wp2_with fail
  refine (xkept_as s false HK.out _).mono ?_
  rintro e w4 ⟨rfl, bel⟩
  have B4 : Hid (Below w.heap.size w w4) := below_chain B3.out bel (Nat.le_refl _)
  clear bel
  go_wp2_with fail
  refine (works_any _ (HL.out.on B4.out)).mono ?_
  rintro e w5 ⟨rfl, bel⟩
  go_wp2
  go_ret
  exact ⟨rfl, below_chain B4.out bel (Nat.le_refl _)⟩
set_option maxRecDepth 100000 in
set_option maxHeartbeats 1000000 in
theorem lexNames_kind (s : ByteArray) (hbig : ¬ 8192 < s.size) (kd : Nat) (tx : List Nat) (n a b : Nat) (X : ByteArray) (HX : Hid (strN tx = X)) (HT : Hid (tokens (bytesN s) = .ok [(kd, tx, n, a, b)])) (hkd : ((kd : Int) == 1) = false) (HN : Hid (nameB (bytesN s) = false)) (HK : Hid (keptB (bytesN s) = false)) (w : World) (HL : Hid (Laid w)) : Calls Tryd.prog 8 #[.string s] w fun e w' => e = .returned (.bool true) ∧ Below w.heap.size w w' := by
  go_enter Tryd.func8, Tryd.ntmps8
  go_wp2_with fail
  refine (tok_ok (by omega) [(kd, tx, n, a, b)] HT.out HL.out).mono ?_
  rintro e w2 ⟨v, rfl, own, bel⟩
  have B2 : Hid (Below w.heap.size w w2) := bel
  obtain ⟨ao, cap, rfl⟩ := own_form own
  have own' := own
  rcases own.2 with ⟨q, _⟩ | ⟨g, cap', cur, q, hB, hg, hle, hm, hs, ht⟩
  · simp at q
  simp only [Value.slice.injEq] at q
  obtain ⟨rfl, _, rfl⟩ := q
  have c0 : w2.cell? ⟨g, 0, none⟩ = some (.int .u8 (kd : Int)) := own'.cellAt 0 (by simp)
  have c1 : w2.cell? ⟨g, 1, none⟩ = some (.string X) := by rw [own'.cellAt 1 (by simp), ← HX.out]; rfl
  clear own own' hg hle hm hs ht hB bel
  go_wp2_with fail
  refine (xname_as s false (by omega) HN.out _).mono ?_
  rintro e w3 ⟨rfl, bel⟩
  have B3 : Hid (Below w.heap.size w w3) := below_chain B2.out bel (Nat.le_refl _)
  clear bel
  go_wp2_with fail
  refine (xkept_as s false HK.out _).mono ?_
  rintro e w4 ⟨rfl, bel⟩
  have B4 : Hid (Below w.heap.size w w4) := below_chain B3.out bel (Nat.le_refl _)
  clear bel
  go_wp2_with fail
  refine (works_any _ (HL.out.on B4.out)).mono ?_
  rintro e w5 ⟨rfl, bel⟩
  go_wp2
  go_ret
  exact ⟨rfl, below_chain B4.out bel (Nat.le_refl _)⟩
set_option maxRecDepth 100000 in
set_option maxHeartbeats 1000000 in
theorem lexNames_text (s : ByteArray) (hbig : ¬ 8192 < s.size) (kd : Nat) (tx : List Nat) (n a b : Nat) (X : ByteArray) (HX : Hid (strN tx = X)) (HT : Hid (tokens (bytesN s) = .ok [(kd, tx, n, a, b)])) (hkd : ((kd : Int) == 1) = true) (hx : (X.toList == s.toList) = false) (HN : Hid (nameB (bytesN s) = false)) (HK : Hid (keptB (bytesN s) = false)) (w : World) (HL : Hid (Laid w)) : Calls Tryd.prog 8 #[.string s] w fun e w' => e = .returned (.bool true) ∧ Below w.heap.size w w' := by
  go_enter Tryd.func8, Tryd.ntmps8
  go_wp2_with fail
  refine (tok_ok (by omega) [(kd, tx, n, a, b)] HT.out HL.out).mono ?_
  rintro e w2 ⟨v, rfl, own, bel⟩
  have B2 : Hid (Below w.heap.size w w2) := bel
  obtain ⟨ao, cap, rfl⟩ := own_form own
  have own' := own
  rcases own.2 with ⟨q, _⟩ | ⟨g, cap', cur, q, hB, hg, hle, hm, hs, ht⟩
  · simp at q
  simp only [Value.slice.injEq] at q
  obtain ⟨rfl, _, rfl⟩ := q
  have c0 : w2.cell? ⟨g, 0, none⟩ = some (.int .u8 (kd : Int)) := own'.cellAt 0 (by simp)
  have c1 : w2.cell? ⟨g, 1, none⟩ = some (.string X) := by rw [own'.cellAt 1 (by simp), ← HX.out]; rfl
  clear own own' hg hle hm hs ht hB bel
  go_wp2_with fail
  refine (xname_as s false (by omega) HN.out _).mono ?_
  rintro e w3 ⟨rfl, bel⟩
  have B3 : Hid (Below w.heap.size w w3) := below_chain B2.out bel (Nat.le_refl _)
  clear bel
  go_wp2_with fail
  refine (xkept_as s false HK.out _).mono ?_
  rintro e w4 ⟨rfl, bel⟩
  have B4 : Hid (Below w.heap.size w w4) := below_chain B3.out bel (Nat.le_refl _)
  clear bel
  go_wp2_with fail
  refine (works_any _ (HL.out.on B4.out)).mono ?_
  rintro e w5 ⟨rfl, bel⟩
  go_wp2
  go_ret
  exact ⟨rfl, below_chain B4.out bel (Nat.le_refl _)⟩
set_option maxRecDepth 100000 in
set_option maxHeartbeats 1000000 in
theorem lexNames_kept (s : ByteArray) (hbig : ¬ 8192 < s.size) (kd : Nat) (tx : List Nat) (n a b : Nat) (X : ByteArray) (HX : Hid (strN tx = X)) (HT : Hid (tokens (bytesN s) = .ok [(kd, tx, n, a, b)])) (hkd : ((kd : Int) == 1) = true) (hx : (X.toList == s.toList) = true) (HN : Hid (nameB (bytesN s) = false)) (HK : Hid (keptB (bytesN s) = true)) (w : World) (HL : Hid (Laid w)) : Calls Tryd.prog 8 #[.string s] w fun e w' => e = .returned (.bool true) ∧ Below w.heap.size w w' := by
  go_enter Tryd.func8, Tryd.ntmps8
  go_wp2_with fail
  refine (tok_ok (by omega) [(kd, tx, n, a, b)] HT.out HL.out).mono ?_
  rintro e w2 ⟨v, rfl, own, bel⟩
  have B2 : Hid (Below w.heap.size w w2) := bel
  obtain ⟨ao, cap, rfl⟩ := own_form own
  have own' := own
  rcases own.2 with ⟨q, _⟩ | ⟨g, cap', cur, q, hB, hg, hle, hm, hs, ht⟩
  · simp at q
  simp only [Value.slice.injEq] at q
  obtain ⟨rfl, _, rfl⟩ := q
  have c0 : w2.cell? ⟨g, 0, none⟩ = some (.int .u8 (kd : Int)) := own'.cellAt 0 (by simp)
  have c1 : w2.cell? ⟨g, 1, none⟩ = some (.string X) := by rw [own'.cellAt 1 (by simp), ← HX.out]; rfl
  clear own own' hg hle hm hs ht hB bel
  go_wp2_with fail
  refine (xname_as s false (by omega) HN.out _).mono ?_
  rintro e w3 ⟨rfl, bel⟩
  have B3 : Hid (Below w.heap.size w w3) := below_chain B2.out bel (Nat.le_refl _)
  clear bel
  go_wp2_with fail
  refine (xkept_as s true HK.out _).mono ?_
  rintro e w4 ⟨rfl, bel⟩
  have B4 : Hid (Below w.heap.size w w4) := below_chain B3.out bel (Nat.le_refl _)
  clear bel
  go_wp2_with fail
  refine (xkept_as s true HK.out _).mono ?_
  rintro e w5 ⟨rfl, bel⟩
  have B5 : Hid (Below w.heap.size w w5) := below_chain B4.out bel (Nat.le_refl _)
  clear bel
  go_wp2_with fail
  refine (works_any _ (HL.out.on B5.out)).mono ?_
  rintro e w6 ⟨rfl, bel⟩
  go_wp2
  go_ret
  exact ⟨rfl, below_chain B5.out bel (Nat.le_refl _)⟩
set_option maxRecDepth 100000 in
set_option maxHeartbeats 1000000 in
theorem lexNames_name (s : ByteArray) (hbig : ¬ 8192 < s.size) (kd : Nat) (tx : List Nat) (n a b : Nat) (X : ByteArray) (HX : Hid (strN tx = X)) (HT : Hid (tokens (bytesN s) = .ok [(kd, tx, n, a, b)])) (hkd : ((kd : Int) == 1) = true) (hx : (X.toList == s.toList) = true) (HN : Hid (nameB (bytesN s) = true)) (HK : Hid (keptB (bytesN s) = false)) (w : World) (HL : Hid (Laid w)) : Calls Tryd.prog 8 #[.string s] w fun e w' => e = .returned (.bool true) ∧ Below w.heap.size w w' := by
  go_enter Tryd.func8, Tryd.ntmps8
  go_wp2_with fail
  refine (tok_ok (by omega) [(kd, tx, n, a, b)] HT.out HL.out).mono ?_
  rintro e w2 ⟨v, rfl, own, bel⟩
  have B2 : Hid (Below w.heap.size w w2) := bel
  obtain ⟨ao, cap, rfl⟩ := own_form own
  have own' := own
  rcases own.2 with ⟨q, _⟩ | ⟨g, cap', cur, q, hB, hg, hle, hm, hs, ht⟩
  · simp at q
  simp only [Value.slice.injEq] at q
  obtain ⟨rfl, _, rfl⟩ := q
  have c0 : w2.cell? ⟨g, 0, none⟩ = some (.int .u8 (kd : Int)) := own'.cellAt 0 (by simp)
  have c1 : w2.cell? ⟨g, 1, none⟩ = some (.string X) := by rw [own'.cellAt 1 (by simp), ← HX.out]; rfl
  clear own own' hg hle hm hs ht hB bel
  go_wp2_with fail
  refine (xname_as s true (by omega) HN.out _).mono ?_
  rintro e w3 ⟨rfl, bel⟩
  have B3 : Hid (Below w.heap.size w w3) := below_chain B2.out bel (Nat.le_refl _)
  clear bel
  go_wp2_with fail
  refine (xkept_as s false HK.out _).mono ?_
  rintro e w4 ⟨rfl, bel⟩
  have B4 : Hid (Below w.heap.size w w4) := below_chain B3.out bel (Nat.le_refl _)
  clear bel
  go_wp2_with fail
  refine (xkept_as s false HK.out _).mono ?_
  rintro e w5 ⟨rfl, bel⟩
  have B5 : Hid (Below w.heap.size w w5) := below_chain B4.out bel (Nat.le_refl _)
  clear bel
  go_wp2_with fail
  refine (works_any _ (HL.out.on B5.out)).mono ?_
  rintro e w6 ⟨rfl, bel⟩
  go_wp2
  go_ret
  exact ⟨rfl, below_chain B5.out bel (Nat.le_refl _)⟩
theorem lexNames_walk (s : ByteArray) (w : World) (hmax0 : s.size ≤ maxLen) (HL : Hid (Laid w)) : Calls Tryd.prog 8 #[.string s] w fun e w' => e = .returned (.bool true) ∧ Below w.heap.size w w' := by
  have hmax : s.size ≤ 9223372036854775807 := hmax0
  clear hmax0
  by_cases hbig : 8192 < s.size
  · go_enter Tryd.func8, Tryd.ntmps8
    go_wp2
    go_ret
    exact ⟨rfl, Below.refl _ _⟩
  · have hone := isOne_wordy (bytesN s) (by rw [bytesN_length]; omega)
    have hnm := name_is (bytesN s)
    have hkw := kept_wordy (bytesN s)
    have hC : isOne (tokens (bytesN s)) (bytesN s) = false → nameB (bytesN s) = false ∧ keptB (bytesN s) = false := by
      intro h
      rw [hone] at h
      refine ⟨by rw [hnm, h]; rfl, ?_⟩
      cases hk : keptB (bytesN s) with
      | false => rfl
      | true => rw [hkw hk] at h; cases h
    cases h : tokens (bytesN s) with
    | error x =>
      obtain ⟨p, k⟩ := x
      rw [h] at hC
      obtain ⟨h1, h2⟩ := hC rfl
      exact lexNames_err s hbig p k h (by have := tokens_errk _ _ _ h; simp; omega) h1 h2 w HL
    | ok ts =>
      match ts, h with
      | [], h =>
        rw [h] at hC
        obtain ⟨h1, h2⟩ := hC rfl
        exact lexNames_many s hbig [] 0 rfl h rfl h1 h2 w HL
      | t :: u :: r, h =>
        rw [h] at hC
        obtain ⟨h1, h2⟩ := hC rfl
        exact lexNames_many s hbig (t :: u :: r) _ rfl h (by simp; omega) h1 h2 w HL
      | [(kd, tx, n, a, b)], h =>
        rw [h] at hC hone
        by_cases hk : kd = 1
        · have hkd : ((kd : Int) == 1) = true := by simp [hk]
          have hb : ∀ c ∈ tx, c < 256 := tokens_name1 (bytesN s) tx n a b (by rw [h, hk])
          by_cases ht : tx = bytesN s
          · have hx : ((strN tx).toList == s.toList) = true := by rw [ht, strN_bytesN]; simp
            have hw : wordyB (bytesN s) = true := by rw [← hone]; simp [isOne, hk, ht]
            cases hq : keptB (bytesN s) with
            | true => exact lexNames_kept s hbig kd tx n a b _ rfl h hkd hx (by unfold Hid; rw [hnm, hw, hq]; rfl) hq w HL
            | false => exact lexNames_name s hbig kd tx n a b _ rfl h hkd hx (by unfold Hid; rw [hnm, hw, hq]; rfl) hq w HL
          · obtain ⟨h1, h2⟩ := hC (by simp [isOne, ht])
            refine lexNames_text s hbig kd tx n a b _ rfl h hkd ?_ h1 h2 w HL
            rw [bytes_same, bytesN_strN _ hb]; simp [ht]
        · obtain ⟨h1, h2⟩ := hC (by simp [isOne, hk])
          exact lexNames_kind s hbig kd tx n a b _ rfl h (by simp; omega) h1 h2 w HL
end Go.Proofs.YtpjmdiofkkpbgaaDoor
