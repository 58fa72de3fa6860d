/-
  CONTRACTS of the document's Top and number.
-/
import Derived.Test.YteeoakbafbnkhaaDoorWords
import Derived.Below
namespace Go.Proofs.YteeoakbafbnkhaaDoor
open Go.RowKit
set_option linter.unusedVariables false

def valF (n : Nat) (ds : List Nat) : Nat := ds.foldl (fun n c => 10 * n + (c - 48)) n
theorem digN_cons (c : Nat) (r : List Nat) (h : digitB c = true) : digN (c :: r) = 1 + digN r := by unfold digN; rw [List.takeWhile_cons, if_pos h, List.length_cons]; omega
theorem digN_stop (c : Nat) (r : List Nat) (h : digitB c = false) : digN (c :: r) = 0 := by unfold digN; rw [List.takeWhile_cons, if_neg (by simp [h])]; rfl
theorem digW_cons (c : Nat) (r : List Nat) (n : Nat) (h : digitB c = true) : valF n ((c :: r).takeWhile digitB) = valF (10 * n + (c - 48)) (r.takeWhile digitB) := by
  rw [List.takeWhile_cons, if_pos h]; rfl
theorem digW_stop (c : Nat) (r : List Nat) (n : Nat) (h : digitB c = false) : valF n ((c :: r).takeWhile digitB) = n := by
  rw [List.takeWhile_cons, if_neg (by simp [h])]; rfl

theorem list_is (x : ByteArray) (l : List UInt8) : (x.toList == l) = decide (bytesN x = l.map UInt8.toNat) := by
  rw [ByteArray.toList_eq, Bool.eq_iff_iff]
  simp only [beq_iff_eq, decide_eq_true_eq]
  constructor
  · intro h; unfold bytesN; rw [h]
  · intro h
    unfold bytesN at h
    exact (List.map_inj_right fun a b h => UInt8.toNat_inj.mp h).mp h
theorem rTop_as (x : ByteArray) (t : Nat) (ht : topN (bytesN x) = t) (w : World) : Calls Tryd.prog 56 #[.string x] w fun e w' => e = .returned (.int .u64 (t : Int)) ∧ w = w' := by
  have HT : Hid (topN (bytesN x) = t) := ht
  clear ht
  by_cases h1 : bytesN x = [105, 56]
  · have e1 : (x.toList == [105, 56]) = true := by rw [list_is]; simp [h1]
    have HV : Hid (255 = t) := by unfold Hid; rw [← HT.out, h1]; rfl
    clear h1 HT
    go_enter Tryd.func56, Tryd.ntmps56
    go_wp2
    go_ret
    exact ⟨ret_int (by rw [← HV.out]; rfl), rfl⟩
  · have e1 : (x.toList == [105, 56]) = false := by rw [list_is]; simp [h1]
    by_cases h2 : bytesN x = [105, 51, 50]
    · have e2 : (x.toList == [105, 51, 50]) = true := by rw [list_is]; simp [h2]
      have HV : Hid (4294967295 = t) := by unfold Hid; rw [← HT.out, h2]; rfl
      clear h1 h2 HT
      go_enter Tryd.func56, Tryd.ntmps56
      go_wp2
      go_ret
      exact ⟨ret_int (by rw [← HV.out]; rfl), rfl⟩
    · have e2 : (x.toList == [105, 51, 50]) = false := by rw [list_is]; simp [h2]
      have HV : Hid (18446744073709551615 = t) := by unfold Hid; rw [← HT.out]; unfold topN; rw [if_neg h1, if_neg h2]
      clear h1 h2 HT
      go_enter Tryd.func56, Tryd.ntmps56
      go_wp2
      go_ret
      exact ⟨ret_int (by rw [← HV.out]; rfl), rfl⟩

theorem sfx_cases (x : ByteArray) (h : sfxB (bytesN x) = true) : x = ⟨#[]⟩ ∨ x = ⟨#[105, 56]⟩ ∨ x = ⟨#[105, 51, 50]⟩ ∨ x = ⟨#[105, 54, 52]⟩ := by
  simp only [sfxB, Bool.or_eq_true, decide_eq_true_eq] at h
  rcases h with ((h | h) | h) | h
  · exact .inl (bytesN_inj h)
  · exact .inr (.inl (bytesN_inj h))
  · exact .inr (.inr (.inl (bytesN_inj h)))
  · exact .inr (.inr (.inr (bytesN_inj h)))
theorem sfx_not (x : ByteArray) (h : sfxB (bytesN x) = false) : (x.toList == []) = false ∧ (x.toList == [105, 56]) = false ∧ (x.toList == [105, 51, 50]) = false ∧ (x.toList == [105, 54, 52]) = false := by
  simp only [sfxB, Bool.or_eq_false_iff, decide_eq_false_iff_not] at h
  obtain ⟨⟨⟨h1, h2⟩, h3⟩, h4⟩ := h
  exact ⟨by rw [list_is]; simp [h1], by rw [list_is]; simp [h2], by rw [list_is]; simp [h3], by rw [list_is]; simp [h4]⟩
def NumRel (s : ByteArray) (VT E : Nat) (v o i : Value) : Prop := ∃ (k V N : Nat) (b : Bool), k ≤ s.size ∧ i = .int .i64 k ∧ v = .int .u64 (N : Int) ∧ o = .bool b ∧
  (b = false → N = V ∧ V ≤ 18446744073709551615) ∧ (b = true → 18446744073709551615 < V) ∧ N ≤ 18446744073709551615 ∧ valF V (((bytesN s).drop k).takeWhile digitB) = VT ∧ k + digN ((bytesN s).drop k) = E
def numOk (x : ByteArray) (V : Nat) : Bool := sfxB (bytesN x) && decide (V ≤ topN (bytesN x))
theorem top_le (l : List Nat) : topN l ≤ 18446744073709551615 := by unfold topN; split; omega; split <;> omega
def numRes (p F V : Nat) (x : ByteArray) : Value := if numOk x V then .tuple #[.agg #[.int .u8 2, .string x, .int .u64 (V : Int), .int .i64 (p : Int), .int .i64 (F : Int)], .int .i64 0]
  else .tuple #[.agg #[.int .u8 0, .string ⟨#[]⟩, .int .u64 0, .int .i64 0, .int .i64 0], .int .i64 33]
theorem numRes_ok (p F V : Nat) (x : ByteArray) (h : numOk x V = true) : numRes p F V x = .tuple #[.agg #[.int .u8 2, .string x, .int .u64 (V : Int), .int .i64 (p : Int), .int .i64 (F : Int)], .int .i64 0] := by unfold numRes; rw [if_pos h]
theorem numRes_no (p F V : Nat) (x : ByteArray) (h : numOk x V = false) : numRes p F V x = .tuple #[.agg #[.int .u8 0, .string ⟨#[]⟩, .int .u64 0, .int .i64 0, .int .i64 0], .int .i64 33] := by unfold numRes; rw [if_neg (by simp [h])]
set_option maxRecDepth 100000 in
set_option maxHeartbeats 2000000 in
theorem rnumber_as (s : ByteArray) (y : Int) (p E F VT : Nat) (x : ByteArray) (hy : y = p) (hp : p ≤ s.size) (h : s.size ≤ 1048576) (hE : p + digN ((bytesN s).drop p) = E) (hV : valN (((bytesN s).drop p).takeWhile digitB) = VT)
    (hF : E + wordN ((bytesN s).drop E) = F) (hFs : F ≤ s.size) (hx : s.extract E F = x) (w : World) :
    Calls Tryd.prog 43 #[.string s, .int .i64 y] w fun e w' => e = .returned (numRes p F VT x) ∧ Below w.heap.size w w' := by
  subst hy
  have HV : Hid (valF 0 (((bytesN s).drop p).takeWhile digitB) = VT) := hV
  have HE0 : Hid (p + digN ((bytesN s).drop p) = E) := hE
  have HF : Hid (E + wordN ((bytesN s).drop E) = F) := hF
  have hEF : E ≤ F := by omega
  obtain ⟨R, hR⟩ : ∃ R, Hid (numRes p F VT x = R) := ⟨_, rfl⟩
  rw [hR.out]
  clear hV hE hF
  go_enter Tryd.func43, Tryd.ntmps43
  go_wp2
  go_loop [6, 7, 8] (fun v o i => NumRel s VT E v o i) (fun _ _ i => s.size - (intOf i).toNat)
  case atStart => exact ⟨p, 0, 0, false, hp, rfl, rfl, rfl, fun _ => ⟨rfl, by omega⟩, fun q => (by cases q), by omega, HV.out, HE0.out⟩
  case round =>
    obtain ⟨k, V, N, b, hk, rfl, rfl, rfl, hb1, hb2, hN, hval, hkE⟩ := hrel
    have HE : Hid (k + digN ((bytesN s).drop k) = E) := hkE
    have HW : Hid (valF V (((bytesN s).drop k).takeWhile digitB) = VT) := hval
    have H1 : Hid (b = false → N = V ∧ V ≤ 18446744073709551615) := hb1
    have H2 : Hid (b = true → 18446744073709551615 < V) := hb2
    clear hkE hval hb1 hb2
    by_cases hlt : k < s.size
    · have hdrop := bytesN_drop s k hlt
      obtain ⟨c, hc⟩ : ∃ c, (s[k]'hlt).toNat = c := ⟨_, rfl⟩
      rw [hc] at hdrop
      have HD : Hid ((bytesN s).drop k = c :: (bytesN s).drop (k + 1)) := hdrop
      clear hdrop
      by_cases hd : digitB c = true
      · have HG : Hid (digitB c = true) := hd
        have hc2 : 48 ≤ c ∧ c ≤ 57 := by simpa [digitB] using hd
        have HE2 : Hid (k + 1 + digN ((bytesN s).drop (k + 1)) = E) := by unfold Hid; rw [← HE.out, HD.out, digN_cons c _ hd]; omega
        have HW2 : Hid (valF (10 * V + (c - 48)) (((bytesN s).drop (k + 1)).takeWhile digitB) = VT) := by unfold Hid; rw [← HW.out, HD.out, digW_cons c _ _ hd]
        clear hd
        go_wp2_with fail
        refine (rdigit_any c _).mono ?_
        rw [HG.out]
        rintro e wx ⟨rfl, rfl⟩
        go_wp2
        · rename_i hgt
          go_round
          case rel =>
            refine ⟨k + 1, 10 * V + (c - 48), N, true, by omega, by go_num, rfl, rfl, fun q => (by cases q), fun _ => ?_, hN, HW2.out, HE2.out⟩
            cases b with
            | false => have := H1.out rfl; omega
            | true => have := H2.out rfl; omega
          case measure => simp [intOf]; omega
        · rename_i hle
          go_round
          case rel =>
            refine ⟨k + 1, 10 * V + (c - 48), 10 * N + (c - 48), b, by omega, by go_num, ?_, rfl, fun q => ?_, fun q => ?_, by omega, HW2.out, HE2.out⟩
            · congr 1; omega
            · have := H1.out q; omega
            · have := H2.out q; omega
          case measure => simp [intOf]; omega
      · have HG : Hid (digitB c = false) := by simpa [Hid] using hd
        have hkE : k = E := by rw [← HE.out, HD.out, digN_stop c _ HG.out]; omega
        have HVT : Hid (V = VT) := by unfold Hid; rw [← HW.out, HD.out, digW_stop c _ _ HG.out]
        clear hd HE HW HD
        subst hkE
        by_cases hs : sfxB (bytesN x) = true
        · have hxs : x = ⟨#[]⟩ ∨ x = ⟨#[105, 56]⟩ ∨ x = ⟨#[105, 51, 50]⟩ ∨ x = ⟨#[105, 54, 52]⟩ := sfx_cases x hs
          obtain ⟨T, hT⟩ : ∃ T, Hid (topN (bytesN x) = T) := ⟨_, rfl⟩
          have HS : Hid (sfxB (bytesN x) = true) := hs
          have HT2 : Hid (T ≤ 18446744073709551615) := by unfold Hid; rw [← hT.out]; exact top_le _
          clear hs
          cases b with
          | true =>
            have HNO : Hid (numOk x VT = false) := by
              have := H2.out rfl
              unfold Hid numOk; rw [HS.out, hT.out]; simp; have h3 := HVT.out; have h4 := HT2.out; omega
            rcases hxs with rfl | rfl | rfl | rfl
            all_goals
              go_wp2_with fail
              refine (rdigit_any c _).mono ?_
              rw [HG.out]
              rintro e wx ⟨rfl, rfl⟩
              go_wp2_with fail
              refine (rwords_as s k k F rfl hk h HF.out _).mono ?_
              rintro e wx ⟨rfl, rfl⟩
              go_wp2
              refine bodyPost_cell2 (g := w.heap.size) (t := 39) rfl rfl rfl (heap_alloc_new w _) Tryd.underlying39 rfl (by kernel_rfl) ?_
              exact ⟨by rw [← hR.out, numRes_no _ _ _ _ HNO.out]; rfl, (Below.refl _ _).alloc (Nat.le_refl _) _⟩
          | false =>
            have HNV : Hid (N = VT) := by unfold Hid; rw [(H1.out rfl).1]; exact HVT.out
            by_cases hle : N ≤ T
            · have HOK : Hid (numOk x VT = true) := by
                unfold Hid numOk; rw [HS.out, hT.out]; simp; rw [← HNV.out]; exact hle
              rcases hxs with rfl | rfl | rfl | rfl
              all_goals
                go_wp2_with fail
                refine (rdigit_any c _).mono ?_
                rw [HG.out]
                rintro e wx ⟨rfl, rfl⟩
                go_wp2_with fail
                refine (rwords_as s k k F rfl hk h HF.out _).mono ?_
                rintro e wx ⟨rfl, rfl⟩
                go_wp2_with fail
                refine (rTop_as _ T hT.out _).mono ?_
                rintro e wx ⟨rfl, rfl⟩
                go_wp2
                refine bodyPost_cell2 (g := w.heap.size) (t := 39) rfl rfl rfl (heap_alloc_new w _) Tryd.underlying39 rfl (by kernel_rfl) ?_
                exact ⟨by rw [← hR.out, numRes_ok _ _ _ _ HOK.out, ← HNV.out]; rfl, (Below.refl _ _).alloc (Nat.le_refl _) _⟩
            · have HNO : Hid (numOk x VT = false) := by
                unfold Hid numOk; rw [HS.out, hT.out]; simp; rw [← HNV.out]; omega
              rcases hxs with rfl | rfl | rfl | rfl
              all_goals
                go_wp2_with fail
                refine (rdigit_any c _).mono ?_
                rw [HG.out]
                rintro e wx ⟨rfl, rfl⟩
                go_wp2_with fail
                refine (rwords_as s k k F rfl hk h HF.out _).mono ?_
                rintro e wx ⟨rfl, rfl⟩
                go_wp2_with fail
                refine (rTop_as _ T hT.out _).mono ?_
                rintro e wx ⟨rfl, rfl⟩
                go_wp2
                refine bodyPost_cell2 (g := w.heap.size) (t := 39) rfl rfl rfl (heap_alloc_new w _) Tryd.underlying39 rfl (by kernel_rfl) ?_
                exact ⟨by rw [← hR.out, numRes_no _ _ _ _ HNO.out]; rfl, (Below.refl _ _).alloc (Nat.le_refl _) _⟩
        · have HNO : Hid (numOk x VT = false) := by unfold Hid numOk; simp [hs]
          obtain ⟨q1, q2, q3, q4⟩ := sfx_not x (by simpa using hs)
          clear hs
          go_wp2_with fail
          refine (rdigit_any c _).mono ?_
          rw [HG.out]
          rintro e wx ⟨rfl, rfl⟩
          go_wp2_with fail
          refine (rwords_as s k k F rfl hk h HF.out _).mono ?_
          rintro e wx ⟨rfl, rfl⟩
          go_wp2
          refine bodyPost_cell2 (g := w.heap.size) (t := 39) rfl rfl rfl (heap_alloc_new w _) Tryd.underlying39 rfl (by kernel_rfl) ?_
          exact ⟨by rw [← hR.out, numRes_no _ _ _ _ HNO.out]; rfl, (Below.refl _ _).alloc (Nat.le_refl _) _⟩
    · have hks : k = s.size := by omega
      have hkE : k = E := by rw [← HE.out, hks, drop_size]; rfl
      have HVT : Hid (V = VT) := by unfold Hid; rw [← HW.out, hks, drop_size]; rfl
      clear HE HW hks
      subst hkE
      by_cases hs : sfxB (bytesN x) = true
      · have hxs : x = ⟨#[]⟩ ∨ x = ⟨#[105, 56]⟩ ∨ x = ⟨#[105, 51, 50]⟩ ∨ x = ⟨#[105, 54, 52]⟩ := sfx_cases x hs
        obtain ⟨T, hT⟩ : ∃ T, Hid (topN (bytesN x) = T) := ⟨_, rfl⟩
        have HS : Hid (sfxB (bytesN x) = true) := hs
        have HT2 : Hid (T ≤ 18446744073709551615) := by unfold Hid; rw [← hT.out]; exact top_le _
        clear hs
        cases b with
        | true =>
          have HNO : Hid (numOk x VT = false) := by
            have := H2.out rfl
            unfold Hid numOk; rw [HS.out, hT.out]; simp; have h3 := HVT.out; have h4 := HT2.out; omega
          rcases hxs with rfl | rfl | rfl | rfl
          all_goals
            go_wp2_with fail
            refine (rwords_as s k k F rfl hk h HF.out _).mono ?_
            rintro e wx ⟨rfl, rfl⟩
            go_wp2
            refine bodyPost_cell2 (g := w.heap.size) (t := 39) rfl rfl rfl (heap_alloc_new w _) Tryd.underlying39 rfl (by kernel_rfl) ?_
            exact ⟨by rw [← hR.out, numRes_no _ _ _ _ HNO.out]; rfl, (Below.refl _ _).alloc (Nat.le_refl _) _⟩
        | false =>
          have HNV : Hid (N = VT) := by unfold Hid; rw [(H1.out rfl).1]; exact HVT.out
          by_cases hle : N ≤ T
          · have HOK : Hid (numOk x VT = true) := by
              unfold Hid numOk; rw [HS.out, hT.out]; simp; rw [← HNV.out]; exact hle
            rcases hxs with rfl | rfl | rfl | rfl
            all_goals
              go_wp2_with fail
              refine (rwords_as s k k F rfl hk h HF.out _).mono ?_
              rintro e wx ⟨rfl, rfl⟩
              go_wp2_with fail
              refine (rTop_as _ T hT.out _).mono ?_
              rintro e wx ⟨rfl, rfl⟩
              go_wp2
              refine bodyPost_cell2 (g := w.heap.size) (t := 39) rfl rfl rfl (heap_alloc_new w _) Tryd.underlying39 rfl (by kernel_rfl) ?_
              exact ⟨by rw [← hR.out, numRes_ok _ _ _ _ HOK.out, ← HNV.out]; rfl, (Below.refl _ _).alloc (Nat.le_refl _) _⟩
          · have HNO : Hid (numOk x VT = false) := by
              unfold Hid numOk; rw [HS.out, hT.out]; simp; rw [← HNV.out]; omega
            rcases hxs with rfl | rfl | rfl | rfl
            all_goals
              go_wp2_with fail
              refine (rwords_as s k k F rfl hk h HF.out _).mono ?_
              rintro e wx ⟨rfl, rfl⟩
              go_wp2_with fail
              refine (rTop_as _ T hT.out _).mono ?_
              rintro e wx ⟨rfl, rfl⟩
              go_wp2
              refine bodyPost_cell2 (g := w.heap.size) (t := 39) rfl rfl rfl (heap_alloc_new w _) Tryd.underlying39 rfl (by kernel_rfl) ?_
              exact ⟨by rw [← hR.out, numRes_no _ _ _ _ HNO.out]; rfl, (Below.refl _ _).alloc (Nat.le_refl _) _⟩
      · have HNO : Hid (numOk x VT = false) := by unfold Hid numOk; simp [hs]
        obtain ⟨q1, q2, q3, q4⟩ := sfx_not x (by simpa using hs)
        clear hs
        go_wp2_with fail
        refine (rwords_as s k k F rfl hk h HF.out _).mono ?_
        rintro e wx ⟨rfl, rfl⟩
        go_wp2
        refine bodyPost_cell2 (g := w.heap.size) (t := 39) rfl rfl rfl (heap_alloc_new w _) Tryd.underlying39 rfl (by kernel_rfl) ?_
        exact ⟨by rw [← hR.out, numRes_no _ _ _ _ HNO.out]; rfl, (Below.refl _ _).alloc (Nat.le_refl _) _⟩
end Go.Proofs.YteeoakbafbnkhaaDoor
