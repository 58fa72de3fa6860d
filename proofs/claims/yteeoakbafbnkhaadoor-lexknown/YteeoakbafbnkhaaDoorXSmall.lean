/-
  CONTRACTS of the landed lex's small functions: kinds of bytes, runs of them, the first of several words.
-/
import Derived.Test.YteeoakbafbnkhaaDoorWords
import Derived.Test.YteeoakbafbnkhaaDoorRows5
import Derived.Below
import Derived.Laws.BytesArg
namespace Go.Proofs.YteeoakbafbnkhaaDoor
open Go.RowKit
set_option linter.unusedVariables false

theorem ret_str {x y : ByteArray} (h : x = y) : Ending.returned (.string x) = Ending.returned (.string y) := by rw [h]
def hexL (c : Nat) : Bool := decide (97 ≤ c ∧ c ≤ 102) || decide (65 ≤ c ∧ c ≤ 70)
def kindB (k c : Nat) : Bool := match k with | 0 => blankB c | 1 => letterB c | 2 => digitB c | 3 => hexL c | 4 => endsB c | _ => false

theorem xhas0 (c : Nat) (w : World) : Calls Tryd.prog 48 #[.int .u8 0, .int .u8 (c : Int)] w fun e w' => e = .returned (.bool (blankB c)) ∧ w = w' := by
  go_enter Tryd.func48, Tryd.ntmps48
  go_wp2
  all_goals (go_ret; refine ⟨ret_bool ?_, rfl⟩; rw [Bool.eq_iff_iff]; simp [blankB]; omega)
theorem xhas1 (c : Nat) (w : World) : Calls Tryd.prog 48 #[.int .u8 1, .int .u8 (c : Int)] w fun e w' => e = .returned (.bool (letterB c)) ∧ w = w' := by
  go_enter Tryd.func48, Tryd.ntmps48
  go_wp2
  all_goals (go_ret; refine ⟨ret_bool ?_, rfl⟩; rw [Bool.eq_iff_iff]; simp [letterB]; omega)
theorem xhas2 (c : Nat) (w : World) : Calls Tryd.prog 48 #[.int .u8 2, .int .u8 (c : Int)] w fun e w' => e = .returned (.bool (digitB c)) ∧ w = w' := by
  go_enter Tryd.func48, Tryd.ntmps48
  go_wp2
  all_goals (go_ret; refine ⟨ret_bool ?_, rfl⟩; rw [Bool.eq_iff_iff]; simp [digitB]; omega)
theorem xhas3 (c : Nat) (w : World) : Calls Tryd.prog 48 #[.int .u8 3, .int .u8 (c : Int)] w fun e w' => e = .returned (.bool (hexL c)) ∧ w = w' := by
  go_enter Tryd.func48, Tryd.ntmps48
  go_wp2
  all_goals (go_ret; refine ⟨ret_bool ?_, rfl⟩; rw [Bool.eq_iff_iff]; simp [hexL]; omega)
theorem xhas4 (c : Nat) (w : World) : Calls Tryd.prog 48 #[.int .u8 4, .int .u8 (c : Int)] w fun e w' => e = .returned (.bool (endsB c)) ∧ w = w' := by
  go_enter Tryd.func48, Tryd.ntmps48
  go_wp2
  all_goals (go_ret; refine ⟨ret_bool ?_, rfl⟩; rw [Bool.eq_iff_iff]; simp [endsB]; omega)
theorem xhas_any (k c : Nat) (hk : k < 5) (w : World) : Calls Tryd.prog 48 #[.int .u8 (k : Int), .int .u8 (c : Int)] w fun e w' => e = .returned (.bool (kindB k c)) ∧ w = w' := by
  match k, hk with
  | 0, _ => exact xhas0 c w
  | 1, _ => exact xhas1 c w
  | 2, _ => exact xhas2 c w
  | 3, _ => exact xhas3 c w
  | 4, _ => exact xhas4 c w

def isB (ks : List Nat) (c : Nat) : Bool := ks.any fun k => kindB k c
theorem isB_yes (ks : List Nat) (c i : Nat) (h : i < ks.length) (hi : kindB (ks.getD i 0) c = true) : isB ks c = true := by
  unfold isB
  rw [List.any_eq_true]
  refine ⟨ks[i], List.getElem_mem h, ?_⟩
  rwa [List.getD_eq_getElem?_getD, List.getElem?_eq_getElem h] at hi
theorem isB_no (ks : List Nat) (c : Nat) (h : ∀ i, i < ks.length → kindB (ks.getD i 0) c = false) : isB ks c = false := by
  unfold isB
  rw [List.any_eq_false]
  intro k hk
  obtain ⟨i, hi, rfl⟩ := List.getElem_of_mem hk
  have := h i hi
  rw [List.getD_eq_getElem?_getD, List.getElem?_eq_getElem hi] at this
  simp only [Option.getD_some] at this
  rw [this]; decide
def IsRel (ks : List Nat) (n c : Nat) (i : Value) : Prop := ∃ k : Nat, k ≤ n ∧ i = .int .i64 k ∧ ∀ j, j < k → kindB (ks.getD j 0) c = false
def KindsAt (w : World) (g : Nat) (ks : List Nat) : Prop := (∀ i, i < ks.length → w.cell? ⟨g, i, none⟩ = some (.int .u8 ((ks.getD i 0 : Nat) : Int))) ∧ ∀ k ∈ ks, k < 5
set_option maxRecDepth 100000 in
theorem xis_any (ks : List Nat) (g n c : Nat) (w : World) (hn : ks.length = n) (hn2 : n ≤ 5) (b : Bool) (hb : isB ks c = b) (hK : KindsAt w g ks) :
    Calls Tryd.prog 33 #[.int .u8 (c : Int), .slice (some ⟨g, 0, none⟩) n n] w fun e w' => e = .returned (.bool b) ∧ w = w' := by
  have HB : Hid (isB ks c = b) := hb
  have HN : Hid (ks.length = n) := hn
  have HK : Hid (KindsAt w g ks) := hK
  clear hb hK hn
  go_enter Tryd.func33, Tryd.ntmps33
  go_wp2_with fail
  go_loop [9] (fun i => IsRel ks n c i) (fun i => n - (intOf i).toNat)
  case atStart => exact ⟨0, by omega, rfl, fun j hj => by omega⟩
  case round =>
    obtain ⟨k, hk, rfl, hno⟩ := hrel
    have HNO : Hid (∀ j, j < k → kindB (ks.getD j 0) c = false) := hno
    clear hno
    by_cases hlt : k < n
    · obtain ⟨x, hx⟩ : ∃ x, Hid (ks.getD k 0 = x) := ⟨_, rfl⟩
      have hl : k < ks.length := by rw [HN.out]; exact hlt
      have hcell : w.cell? ⟨g, k, none⟩ = some (.int .u8 (x : Int)) := by rw [← hx.out]; exact HK.out.1 k hl
      have hx5 : x < 5 := by
        rw [← hx.out, List.getD_eq_getElem?_getD, List.getElem?_eq_getElem hl]
        exact HK.out.2 _ (List.getElem_mem hl)
      by_cases hh : kindB x c = true
      · have HH : Hid (kindB x c = true) := hh
        have HT : Hid (true = b) := by unfold Hid; rw [← HB.out]; exact (isB_yes ks c k hl (by rw [hx.out]; exact hh)).symm
        clear hh
        go_wp2_with fail
        refine (xhas_any x c hx5 _).mono ?_
        rw [HH.out]
        rintro e wx ⟨rfl, rfl⟩
        go_wp2
        go_ret
        exact ⟨ret_bool HT.out, rfl⟩
      · have HH : Hid (kindB x c = false) := by simpa [Hid] using hh
        have HNO2 : Hid (∀ j, j < k + 1 → kindB (ks.getD j 0) c = false) := by
          intro j hj
          by_cases hjk : j = k
          · subst hjk; rw [hx.out]; exact HH.out
          · exact HNO.out j (by omega)
        clear hh
        go_wp2_with fail
        refine (xhas_any x c hx5 _).mono ?_
        rw [HH.out]
        rintro e wx ⟨rfl, rfl⟩
        go_wp2
        go_round
        case rel => exact ⟨k + 1, by omega, by go_num, HNO2.out⟩
        case measure => simp [intOf]; omega
    · have hkn : k = n := by omega
      have HF : Hid (false = b) := by unfold Hid; rw [← HB.out]; exact (isB_no ks c (by rw [HN.out, ← hkn]; exact HNO.out)).symm
      subst hkn
      go_wp2
      go_ret
      exact ⟨ret_bool HF.out, rfl⟩

def runN (q : Nat → Bool) (l : List Nat) : Nat := (l.takeWhile q).length
theorem runN_cons (q : Nat → Bool) (c : Nat) (r : List Nat) (h : q c = true) : runN q (c :: r) = 1 + runN q r := by unfold runN; rw [List.takeWhile_cons, if_pos h, List.length_cons]; omega
theorem runN_stop (q : Nat → Bool) (c : Nat) (r : List Nat) (h : q c = false) : runN q (c :: r) = 0 := by unfold runN; rw [List.takeWhile_cons, if_neg (by simp [h])]; rfl
def PastRel (s : ByteArray) (q : Nat → Bool) (E : Nat) (i : Value) : Prop := ∃ k : Nat, k ≤ s.size ∧ i = .int .i64 k ∧ k + runN q ((bytesN s).drop k) = E
set_option maxRecDepth 100000 in
theorem xpast_any (s : ByteArray) (y : Int) (p E : Nat) (ks : List Nat) (g n : Nat) (w : World) (hy : y = p) (hp : p ≤ s.size) (h : s.size ≤ 1048576) (hn : ks.length = n) (hn2 : n ≤ 5) (hE : p + runN (isB ks) ((bytesN s).drop p) = E) (hK : KindsAt w g ks) :
    Calls Tryd.prog 35 #[.string s, .int .i64 y, .slice (some ⟨g, 0, none⟩) n n] w fun e w' => e = .returned (.int .i64 (E : Int)) ∧ w = w' := by
  subst hy
  have HN : Hid (ks.length = n) := hn
  have HK : Hid (KindsAt w g ks) := hK
  clear hn hK
  go_enter Tryd.func35, Tryd.ntmps35
  go_wp2
  go_loop [1] (fun i => PastRel s (isB ks) E i) (fun i => s.size - (intOf i).toNat)
  case atStart => exact ⟨p, hp, rfl, hE⟩
  case round =>
    obtain ⟨k, hk, rfl, hkE⟩ := hrel
    have HE : Hid (k + runN (isB ks) ((bytesN s).drop k) = E) := hkE
    clear hkE hE
    by_cases hlt : k < s.size
    · have hdrop := bytesN_drop s k hlt
      obtain ⟨c, hc⟩ : ∃ c, (s[k]'hlt).toNat = c := ⟨_, rfl⟩
      rw [hc] at hdrop
      have HD : Hid ((bytesN s).drop k = c :: (bytesN s).drop (k + 1)) := hdrop
      clear hdrop
      by_cases hl : isB ks c = true
      · have HL : Hid (isB ks c = true) := hl
        clear hl
        go_wp2_with fail
        refine (xis_any ks g n c _ HN.out hn2 true HL.out HK.out).mono ?_
        rintro e wx ⟨rfl, rfl⟩
        go_wp2
        go_round
        case rel => exact ⟨k + 1, by omega, by go_num, by rw [← HE.out, HD.out, runN_cons _ c _ HL.out]; omega⟩
        case measure => simp [intOf]; omega
      · have HL : Hid (isB ks c = false) := by simpa [Hid] using hl
        clear hl
        go_wp2_with fail
        refine (xis_any ks g n c _ HN.out hn2 false HL.out HK.out).mono ?_
        rintro e wx ⟨rfl, rfl⟩
        go_wp2
        go_ret
        exact ⟨ret_int (by rw [← HE.out, HD.out, runN_stop _ c _ HL.out]; omega), rfl⟩
    · have hks : k = s.size := by omega
      have HF : Hid (k = E) := by unfold Hid; rw [← HE.out, hks, drop_size]; rfl
      clear HE
      subst hks
      go_wp2
      go_ret
      exact ⟨ret_int (by rw [HF.out]), rfl⟩

/-! ### A word at the head of a text -/
theorem xpre_any (s x : ByteArray) (h : s.size ≤ 1048576) (hx : x.size ≤ 1048576) (w : World) :
    Calls Tryd.prog 49 #[.string s, .string x] w fun e w' => e = .returned (.bool (hasB (bytesN s) (bytesN x))) ∧ w = w' := by
  by_cases hle : x.size ≤ s.size
  · go_enter Tryd.func49, Tryd.ntmps49
    go_wp2
    go_ret
    refine ⟨ret_bool ?_, rfl⟩
    rw [bytes_same, bytesN_extract, hasB, bytesN_length, List.drop_zero, Nat.sub_zero]
  · have hf : hasB (bytesN s) (bytesN x) = false := by
      unfold hasB
      simp only [decide_eq_false_iff_not]
      intro q
      have := congrArg List.length q
      rw [List.length_take, bytesN_length, bytesN_length] at this
      omega
    rw [hf]
    clear hf
    go_enter Tryd.func49, Tryd.ntmps49
    go_wp2
    go_ret
    exact ⟨rfl, rfl⟩
def firstW (l : List Nat) (ws : List ByteArray) : ByteArray := (ws.find? fun x => hasB l (bytesN x)).getD ⟨#[]⟩
theorem firstW_at (l : List Nat) (ws : List ByteArray) (i : Nat) (h : i < ws.length) (hb : ∀ j, j < i → hasB l (bytesN (ws.getD j ⟨#[]⟩)) = false) (hi : hasB l (bytesN (ws.getD i ⟨#[]⟩)) = true) : firstW l ws = ws.getD i ⟨#[]⟩ := by
  unfold firstW
  have e : ws.find? (fun x => hasB l (bytesN x)) = some ws[i] := by
    rw [List.find?_eq_some_iff_getElem]
    rw [List.getD_eq_getElem?_getD, List.getElem?_eq_getElem h] at hi
    refine ⟨hi, i, h, rfl, ?_⟩
    intro j hj
    have := hb j hj
    rw [List.getD_eq_getElem?_getD, List.getElem?_eq_getElem (by omega)] at this
    simpa using this
  rw [e, List.getD_eq_getElem?_getD, List.getElem?_eq_getElem h]
theorem firstW_none (l : List Nat) (ws : List ByteArray) (hb : ∀ j, j < ws.length → hasB l (bytesN (ws.getD j ⟨#[]⟩)) = false) : firstW l ws = ⟨#[]⟩ := by
  unfold firstW
  have e : ws.find? (fun x => hasB l (bytesN x)) = none := by
    rw [List.find?_eq_none]
    intro x hx
    obtain ⟨j, hj, rfl⟩ := List.getElem_of_mem hx
    have := hb j hj
    rw [List.getD_eq_getElem?_getD, List.getElem?_eq_getElem hj] at this
    simp only [Option.getD_some] at this
    rw [this]; decide
  rw [e]; rfl
def FirstRel (l : List Nat) (ws : List ByteArray) (n : Nat) (i : Value) : Prop := ∃ k : Nat, k ≤ n ∧ i = .int .i64 k ∧ ∀ j, j < k → hasB l (bytesN (ws.getD j ⟨#[]⟩)) = false
set_option maxRecDepth 100000 in
theorem xfirst_any (s : ByteArray) (h : s.size ≤ 1048576) (ws : List ByteArray) (g n : Nat) (w : World) (hn : ws.length = n) (hn2 : n ≤ 100) (hws : ∀ j, (ws.getD j ⟨#[]⟩).size ≤ 10) (X : ByteArray) (hX : firstW (bytesN s) ws = X)
    (hK : ∀ i, i < n → w.cell? ⟨g, i, none⟩ = some (.string (ws.getD i ⟨#[]⟩))) :
    Calls Tryd.prog 54 #[.string s, .slice (some ⟨g, 0, none⟩) n n] w fun e w' => e = .returned (.string X) ∧ w = w' := by
  have HX : Hid (firstW (bytesN s) ws = X) := hX
  have HN : Hid (ws.length = n) := hn
  have HK : Hid (∀ i, i < n → w.cell? ⟨g, i, none⟩ = some (.string (ws.getD i ⟨#[]⟩))) := hK
  have HW : Hid (∀ j, (ws.getD j ⟨#[]⟩).size ≤ 10) := hws
  clear hX hK hn hws
  go_enter Tryd.func54, Tryd.ntmps54
  go_wp2_with fail
  go_loop [9] (fun i => FirstRel (bytesN s) ws n i) (fun i => n - (intOf i).toNat)
  case atStart => exact ⟨0, by omega, rfl, fun j hj => by omega⟩
  case round =>
    obtain ⟨k, hk, rfl, hno⟩ := hrel
    have HNO : Hid (∀ j, j < k → hasB (bytesN s) (bytesN (ws.getD j ⟨#[]⟩)) = false) := hno
    clear hno
    by_cases hlt : k < n
    · obtain ⟨x, hx⟩ : ∃ x, Hid (ws.getD k ⟨#[]⟩ = x) := ⟨_, rfl⟩
      have hcell : w.cell? ⟨g, k, none⟩ = some (.string x) := by rw [← hx.out]; exact HK.out k hlt
      have hxs : x.size ≤ 10 := by rw [← hx.out]; exact HW.out k
      by_cases hh : hasB (bytesN s) (bytesN x) = true
      · have HH : Hid (hasB (bytesN s) (bytesN x) = true) := hh
        have HT : Hid (x = X) := by unfold Hid; rw [← HX.out, firstW_at _ ws k (by rw [HN.out]; exact hlt) HNO.out (by rw [hx.out]; exact hh), hx.out]
        clear hh
        go_wp2_with fail
        refine (xpre_any s x h (by omega) _).mono ?_
        rw [HH.out]
        rintro e wx ⟨rfl, rfl⟩
        go_wp2
        go_ret
        exact ⟨ret_str HT.out, rfl⟩
      · have HH : Hid (hasB (bytesN s) (bytesN x) = false) := by simpa [Hid] using hh
        have HNO2 : Hid (∀ j, j < k + 1 → hasB (bytesN s) (bytesN (ws.getD j ⟨#[]⟩)) = false) := by
          intro j hj
          by_cases hjk : j = k
          · subst hjk; rw [hx.out]; exact HH.out
          · exact HNO.out j (by omega)
        clear hh
        go_wp2_with fail
        refine (xpre_any s x h (by omega) _).mono ?_
        rw [HH.out]
        rintro e wx ⟨rfl, rfl⟩
        go_wp2
        go_round
        case rel => exact ⟨k + 1, by omega, by go_num, HNO2.out⟩
        case measure => simp [intOf]; omega
    · have hkn : k = n := by omega
      have HF : Hid (⟨#[]⟩ = X) := by unfold Hid; rw [← HX.out]; exact (firstW_none _ ws (by rw [HN.out, ← hkn]; exact HNO.out)).symm
      subst hkn
      go_wp2
      go_ret
      exact ⟨ret_str HF.out, rfl⟩
end Go.Proofs.YteeoakbafbnkhaaDoor
