import Derived.Test.YtmhnbklchnnbaaaGreatDoorJLow
import Derived.Below
import Derived.Laws.BytesArg
import Derived.Test.YtmhnbklchnnbaaaGreatDoorShelf
import Derived.Lib.ConvBytes
import Derived.Lib.ParseIntBMem
import Derived.Lib.Hide
import Derived.Laws.Strings3
import Derived.Laws.Closers25
import Derived.Laws.Closers25b
import Derived.BigCall
import Derived.BigGuard
set_option maxHeartbeats 4000000
set_option maxRecDepth 100000
namespace Go.Proofs.YtmhnbklchnnbaaaGreatDoor
open Go.RowKit
set_option linter.unusedVariables false
theorem ret_str {x y : ByteArray} (h : x = y) : Ending.returned (.string x) = Ending.returned (.string y) := by rw [h]
def hexL (c : Nat) : Bool := decide (97 ≤ c ∧ c ≤ 102) || decide (65 ≤ c ∧ c ≤ 70)
def kindB (k c : Nat) : Bool := match k with | 0 => blankB c | 1 => letterB c | 2 => digitB c | 3 => hexL c | 4 => endsB c | _ => false
theorem xhas0 (c : Nat) (w : World) : Calls Tryz.prog 73 #[.int .u8 0, .int .u8 (c : Int)] w fun e w' => e = .returned (.bool (blankB c)) ∧ w = w' := by
  go_enter Tryz.func73, Tryz.ntmps73
  go_wp2
  all_goals (go_ret; refine ⟨ret_bool ?_, rfl⟩; rw [Bool.eq_iff_iff]; simp [blankB]; omega)
theorem xhas1 (c : Nat) (w : World) : Calls Tryz.prog 73 #[.int .u8 1, .int .u8 (c : Int)] w fun e w' => e = .returned (.bool (letterB c)) ∧ w = w' := by
  go_enter Tryz.func73, Tryz.ntmps73
  go_wp2
  all_goals (go_ret; refine ⟨ret_bool ?_, rfl⟩; rw [Bool.eq_iff_iff]; simp [letterB]; omega)
theorem xhas2 (c : Nat) (w : World) : Calls Tryz.prog 73 #[.int .u8 2, .int .u8 (c : Int)] w fun e w' => e = .returned (.bool (digitB c)) ∧ w = w' := by
  go_enter Tryz.func73, Tryz.ntmps73
  go_wp2
  all_goals (go_ret; refine ⟨ret_bool ?_, rfl⟩; rw [Bool.eq_iff_iff]; simp [digitB]; omega)
theorem xhas3 (c : Nat) (w : World) : Calls Tryz.prog 73 #[.int .u8 3, .int .u8 (c : Int)] w fun e w' => e = .returned (.bool (hexL c)) ∧ w = w' := by
  go_enter Tryz.func73, Tryz.ntmps73
  go_wp2
  all_goals (go_ret; refine ⟨ret_bool ?_, rfl⟩; rw [Bool.eq_iff_iff]; simp [hexL]; omega)
theorem xhas4 (c : Nat) (w : World) : Calls Tryz.prog 73 #[.int .u8 4, .int .u8 (c : Int)] w fun e w' => e = .returned (.bool (endsB c)) ∧ w = w' := by
  go_enter Tryz.func73, Tryz.ntmps73
  go_wp2
  all_goals (go_ret; refine ⟨ret_bool ?_, rfl⟩; rw [Bool.eq_iff_iff]; simp [endsB]; omega)
theorem xhas_any (k c : Nat) (hk : k < 5) (w : World) : Calls Tryz.prog 73 #[.int .u8 (k : Int), .int .u8 (c : Int)] w fun e w' => e = .returned (.bool (kindB k c)) ∧ w = w' := by
  match k, hk with
  | 0, _ => exact xhas0 c w
  | 1, _ => exact xhas1 c w
  | 2, _ => exact xhas2 c w
  | 3, _ => exact xhas3 c w
  | 4, _ => exact xhas4 c w
def isB (ks : List Nat) (c : Nat) : Bool := ks.any fun k => kindB k c
theorem isB_yes (ks : List Nat) (c i : Nat) (h : i < ks.length) (hi : kindB (ks.getD i 0) c = true) : isB ks c = true := by
  unfold isB
  rw [List.any_eq_true]
  refine ⟨ks[i], List.getElem_mem h, ?_⟩
  rwa [List.getD_eq_getElem?_getD, List.getElem?_eq_getElem h] at hi
theorem isB_no (ks : List Nat) (c : Nat) (h : ∀ i, i < ks.length → kindB (ks.getD i 0) c = false) : isB ks c = false := by
  unfold isB
  rw [List.any_eq_false]
  intro k hk
  obtain ⟨i, hi, rfl⟩ := List.getElem_of_mem hk
  have := h i hi
  rw [List.getD_eq_getElem?_getD, List.getElem?_eq_getElem hi] at this
  simp only [Option.getD_some] at this
  rw [this]; decide
def IsRel (ks : List Nat) (n c : Nat) (i : Value) : Prop := ∃ k : Nat, k ≤ n ∧ i = .int .i64 k ∧ ∀ j, j < k → kindB (ks.getD j 0) c = false
def KindsAt (w : World) (g : Nat) (ks : List Nat) : Prop := (∀ i, i < ks.length → w.cell? ⟨g, i, none⟩ = some (.int .u8 ((ks.getD i 0 : Nat) : Int))) ∧ ∀ k ∈ ks, k < 5
theorem xis_any (ks : List Nat) (g n c : Nat) (w : World) (hn : ks.length = n) (hn2 : n ≤ 5) (b : Bool) (hb : isB ks c = b) (hK : KindsAt w g ks) :
    Calls Tryz.prog 53 #[.int .u8 (c : Int), .slice (some ⟨g, 0, none⟩) n n] w fun e w' => e = .returned (.bool b) ∧ w = w' := by
  have HB : Hid (isB ks c = b) := hb
  have HN : Hid (ks.length = n) := hn
  have HK : Hid (KindsAt w g ks) := hK
  clear hb hK hn
  go_enter Tryz.func53, Tryz.ntmps53
  go_wp2_with fail
  go_loop [9] (fun i => IsRel ks n c i) (fun i => n - (intOf i).toNat)
  case atStart => exact ⟨0, by omega, rfl, fun j hj => by omega⟩
  case round =>
    obtain ⟨k, hk, rfl, hno⟩ := hrel
    have HNO : Hid (∀ j, j < k → kindB (ks.getD j 0) c = false) := hno
    clear hno
    by_cases hlt : k < n
    · obtain ⟨x, hx⟩ : ∃ x, Hid (ks.getD k 0 = x) := ⟨_, rfl⟩
      have hl : k < ks.length := by rw [HN.out]; exact hlt
      have hcell : w.cell? ⟨g, k, none⟩ = some (.int .u8 (x : Int)) := by rw [← hx.out]; exact HK.out.1 k hl
      have hx5 : x < 5 := by
        rw [← hx.out, List.getD_eq_getElem?_getD, List.getElem?_eq_getElem hl]
        exact HK.out.2 _ (List.getElem_mem hl)
      by_cases hh : kindB x c = true
      · have HH : Hid (kindB x c = true) := hh
        have HT : Hid (true = b) := by unfold Hid; rw [← HB.out]; exact (isB_yes ks c k hl (by rw [hx.out]; exact hh)).symm
        clear hh
        go_wp2_with fail
        refine (xhas_any x c hx5 _).mono ?_
        rw [HH.out]
        rintro e wx ⟨rfl, rfl⟩
        go_wp2
        go_ret
        exact ⟨ret_bool HT.out, rfl⟩
      · have HH : Hid (kindB x c = false) := by simpa [Hid] using hh
        have HNO2 : Hid (∀ j, j < k + 1 → kindB (ks.getD j 0) c = false) := by
          intro j hj
          by_cases hjk : j = k
          · subst hjk; rw [hx.out]; exact HH.out
          · exact HNO.out j (by omega)
        clear hh
        go_wp2_with fail
        refine (xhas_any x c hx5 _).mono ?_
        rw [HH.out]
        rintro e wx ⟨rfl, rfl⟩
        go_wp2
        go_round
        case rel => exact ⟨k + 1, by omega, by go_num, HNO2.out⟩
        case measure => simp [intOf]; omega
    · have hkn : k = n := by omega
      have HF : Hid (false = b) := by unfold Hid; rw [← HB.out]; exact (isB_no ks c (by rw [HN.out, ← hkn]; exact HNO.out)).symm
      subst hkn
      go_wp2
      go_ret
      exact ⟨ret_bool HF.out, rfl⟩
def runN (q : Nat → Bool) (l : List Nat) : Nat := (l.takeWhile q).length
theorem runN_cons (q : Nat → Bool) (c : Nat) (r : List Nat) (h : q c = true) : runN q (c :: r) = 1 + runN q r := by unfold runN; rw [List.takeWhile_cons, if_pos h, List.length_cons]; omega
theorem runN_stop (q : Nat → Bool) (c : Nat) (r : List Nat) (h : q c = false) : runN q (c :: r) = 0 := by unfold runN; rw [List.takeWhile_cons, if_neg (by simp [h])]; rfl
def PastRel (s : ByteArray) (q : Nat → Bool) (E : Nat) (i : Value) : Prop := ∃ k : Nat, k ≤ s.size ∧ i = .int .i64 k ∧ k + runN q ((bytesN s).drop k) = E
theorem xpast_big (s : ByteArray) (y : Int) (p E : Nat) (ks : List Nat) (g n : Nat) (w : World) (hy : y = p) (hp : p ≤ s.size) (h : s.size ≤ 9223372036854775807) (hn : ks.length = n) (hn2 : n ≤ 5) (hE : p + runN (isB ks) ((bytesN s).drop p) = E) (hK : KindsAt w g ks) :
    Calls Tryz.prog 54 #[.string s, .int .i64 y, .slice (some ⟨g, 0, none⟩) n n] w fun e w' => e = .returned (.int .i64 (E : Int)) ∧ w = w' := by
  subst hy
  have HN : Hid (ks.length = n) := hn
  have HK : Hid (KindsAt w g ks) := hK
  clear hn hK
  go_enter Tryz.func54, Tryz.ntmps54
  go_wp2
  go_loop [1] (fun i => PastRel s (isB ks) E i) (fun i => s.size - (intOf i).toNat)
  case atStart => exact ⟨p, hp, rfl, hE⟩
  case round =>
    obtain ⟨k, hk, rfl, hkE⟩ := hrel
    have HE : Hid (k + runN (isB ks) ((bytesN s).drop k) = E) := hkE
    clear hkE hE
    by_cases hlt : k < s.size
    · have hdrop := bytesN_drop s k hlt
      obtain ⟨c, hc⟩ : ∃ c, (s[k]'hlt).toNat = c := ⟨_, rfl⟩
      rw [hc] at hdrop
      have HD : Hid ((bytesN s).drop k = c :: (bytesN s).drop (k + 1)) := hdrop
      clear hdrop
      by_cases hl : isB ks c = true
      · have HL : Hid (isB ks c = true) := hl
        clear hl
        go_wp2_with fail
        refine (xis_any ks g n c _ HN.out hn2 true HL.out HK.out).mono ?_
        rintro e wx ⟨rfl, rfl⟩
        go_wp2
        go_round
        case rel => exact ⟨k + 1, by omega, by go_num, by rw [← HE.out, HD.out, runN_cons _ c _ HL.out]; omega⟩
        case measure => simp [intOf]; omega
      · have HL : Hid (isB ks c = false) := by simpa [Hid] using hl
        clear hl
        go_wp2_with fail
        refine (xis_any ks g n c _ HN.out hn2 false HL.out HK.out).mono ?_
        rintro e wx ⟨rfl, rfl⟩
        go_wp2
        go_ret
        exact ⟨ret_int (by rw [← HE.out, HD.out, runN_stop _ c _ HL.out]; omega), rfl⟩
    · have hks : k = s.size := by omega
      have HF : Hid (k = E) := by unfold Hid; rw [← HE.out, hks, drop_size]; rfl
      clear HE
      subst hks
      go_wp2
      go_ret
      exact ⟨ret_int (by rw [HF.out]), rfl⟩
theorem xpast_any (s : ByteArray) (y : Int) (p E : Nat) (ks : List Nat) (g n : Nat) (w : World) (hy : y = p) (hp : p ≤ s.size) (h : s.size ≤ 1048576) (hn : ks.length = n) (hn2 : n ≤ 5) (hE : p + runN (isB ks) ((bytesN s).drop p) = E) (hK : KindsAt w g ks) :
    Calls Tryz.prog 54 #[.string s, .int .i64 y, .slice (some ⟨g, 0, none⟩) n n] w fun e w' => e = .returned (.int .i64 (E : Int)) ∧ w = w' := xpast_big s y p E ks g n w hy hp (by omega) hn hn2 hE hK
theorem xpre_any (s x : ByteArray) (h : s.size ≤ 1048576) (hx : x.size ≤ 1048576) (w : World) :
    Calls Tryz.prog 88 #[.string s, .string x] w fun e w' => e = .returned (.bool (hasB (bytesN s) (bytesN x))) ∧ w = w' := by
  by_cases hle : x.size ≤ s.size
  · go_enter Tryz.func88, Tryz.ntmps88
    go_wp2
    go_ret
    refine ⟨ret_bool ?_, rfl⟩
    rw [bytes_same, bytesN_extract, hasB, bytesN_length, List.drop_zero, Nat.sub_zero]
  · have hf : hasB (bytesN s) (bytesN x) = false := by
      unfold hasB
      simp only [decide_eq_false_iff_not]
      intro q
      have := congrArg List.length q
      rw [List.length_take, bytesN_length, bytesN_length] at this
      omega
    rw [hf]
    clear hf
    go_enter Tryz.func88, Tryz.ntmps88
    go_wp2
    go_ret
    exact ⟨rfl, rfl⟩
def firstW (l : List Nat) (ws : List ByteArray) : ByteArray := (ws.find? fun x => hasB l (bytesN x)).getD ⟨#[]⟩
theorem firstW_at (l : List Nat) (ws : List ByteArray) (i : Nat) (h : i < ws.length) (hb : ∀ j, j < i → hasB l (bytesN (ws.getD j ⟨#[]⟩)) = false) (hi : hasB l (bytesN (ws.getD i ⟨#[]⟩)) = true) : firstW l ws = ws.getD i ⟨#[]⟩ := by
  unfold firstW
  have e : ws.find? (fun x => hasB l (bytesN x)) = some ws[i] := by
    rw [List.find?_eq_some_iff_getElem]
    rw [List.getD_eq_getElem?_getD, List.getElem?_eq_getElem h] at hi
    refine ⟨hi, i, h, rfl, ?_⟩
    intro j hj
    have := hb j hj
    rw [List.getD_eq_getElem?_getD, List.getElem?_eq_getElem (by omega)] at this
    simpa using this
  rw [e, List.getD_eq_getElem?_getD, List.getElem?_eq_getElem h]
theorem firstW_none (l : List Nat) (ws : List ByteArray) (hb : ∀ j, j < ws.length → hasB l (bytesN (ws.getD j ⟨#[]⟩)) = false) : firstW l ws = ⟨#[]⟩ := by
  unfold firstW
  have e : ws.find? (fun x => hasB l (bytesN x)) = none := by
    rw [List.find?_eq_none]
    intro x hx
    obtain ⟨j, hj, rfl⟩ := List.getElem_of_mem hx
    have := hb j hj
    rw [List.getD_eq_getElem?_getD, List.getElem?_eq_getElem hj] at this
    simp only [Option.getD_some] at this
    rw [this]; decide
  rw [e]; rfl
def FirstRel (l : List Nat) (ws : List ByteArray) (n : Nat) (i : Value) : Prop := ∃ k : Nat, k ≤ n ∧ i = .int .i64 k ∧ ∀ j, j < k → hasB l (bytesN (ws.getD j ⟨#[]⟩)) = false
theorem xfirst_any (s : ByteArray) (h : s.size ≤ 1048576) (ws : List ByteArray) (g n : Nat) (w : World) (hn : ws.length = n) (hn2 : n ≤ 100) (hws : ∀ j, (ws.getD j ⟨#[]⟩).size ≤ 10) (X : ByteArray) (hX : firstW (bytesN s) ws = X)
    (hK : ∀ i, i < n → w.cell? ⟨g, i, none⟩ = some (.string (ws.getD i ⟨#[]⟩))) :
    Calls Tryz.prog 93 #[.string s, .slice (some ⟨g, 0, none⟩) n n] w fun e w' => e = .returned (.string X) ∧ w = w' := by
  have HX : Hid (firstW (bytesN s) ws = X) := hX
  have HN : Hid (ws.length = n) := hn
  have HK : Hid (∀ i, i < n → w.cell? ⟨g, i, none⟩ = some (.string (ws.getD i ⟨#[]⟩))) := hK
  have HW : Hid (∀ j, (ws.getD j ⟨#[]⟩).size ≤ 10) := hws
  clear hX hK hn hws
  go_enter Tryz.func93, Tryz.ntmps93
  go_wp2_with fail
  go_loop [9] (fun i => FirstRel (bytesN s) ws n i) (fun i => n - (intOf i).toNat)
  case atStart => exact ⟨0, by omega, rfl, fun j hj => by omega⟩
  case round =>
    obtain ⟨k, hk, rfl, hno⟩ := hrel
    have HNO : Hid (∀ j, j < k → hasB (bytesN s) (bytesN (ws.getD j ⟨#[]⟩)) = false) := hno
    clear hno
    by_cases hlt : k < n
    · obtain ⟨x, hx⟩ : ∃ x, Hid (ws.getD k ⟨#[]⟩ = x) := ⟨_, rfl⟩
      have hcell : w.cell? ⟨g, k, none⟩ = some (.string x) := by rw [← hx.out]; exact HK.out k hlt
      have hxs : x.size ≤ 10 := by rw [← hx.out]; exact HW.out k
      by_cases hh : hasB (bytesN s) (bytesN x) = true
      · have HH : Hid (hasB (bytesN s) (bytesN x) = true) := hh
        have HT : Hid (x = X) := by unfold Hid; rw [← HX.out, firstW_at _ ws k (by rw [HN.out]; exact hlt) HNO.out (by rw [hx.out]; exact hh), hx.out]
        clear hh
        go_wp2_with fail
        refine (xpre_any s x h (by omega) _).mono ?_
        rw [HH.out]
        rintro e wx ⟨rfl, rfl⟩
        go_wp2
        go_ret
        exact ⟨ret_str HT.out, rfl⟩
      · have HH : Hid (hasB (bytesN s) (bytesN x) = false) := by simpa [Hid] using hh
        have HNO2 : Hid (∀ j, j < k + 1 → hasB (bytesN s) (bytesN (ws.getD j ⟨#[]⟩)) = false) := by
          intro j hj
          by_cases hjk : j = k
          · subst hjk; rw [hx.out]; exact HH.out
          · exact HNO.out j (by omega)
        clear hh
        go_wp2_with fail
        refine (xpre_any s x h (by omega) _).mono ?_
        rw [HH.out]
        rintro e wx ⟨rfl, rfl⟩
        go_wp2
        go_round
        case rel => exact ⟨k + 1, by omega, by go_num, HNO2.out⟩
        case measure => simp [intOf]; omega
    · have hkn : k = n := by omega
      have HF : Hid (⟨#[]⟩ = X) := by unfold Hid; rw [← HX.out]; exact (firstW_none _ ws (by rw [HN.out, ← hkn]; exact HNO.out)).symm
      subst hkn
      go_wp2
      go_ret
      exact ⟨ret_str HF.out, rfl⟩
def Laid (w : World) : Prop := 2 < w.heap.size ∧ ∃ te pe, w.cell? ⟨2, 0, none⟩ = some (.iface te pe)
theorem Laid.below {w w' : World} {B : Nat} (h : Laid w) (hb : Below B w w') (hB : 2 < B) : Laid w' := by
  obtain ⟨h1, te, pe, h2⟩ := h
  exact ⟨Nat.lt_of_lt_of_le h1 hb.size, te, pe, by rw [hb.cell (p := ⟨2, 0, none⟩) hB]; exact h2⟩
theorem Laid.on {w w' : World} (h : Laid w) (hb : Below w.heap.size w w') : Laid w' := h.below hb h.1
theorem below_chain {B : Nat} {w w1 w2 : World} (h1 : Below B w w1) (h2 : Below w1.heap.size w1 w2) (hB : B ≤ w.heap.size) : Below B w w2 :=
  h1.trans (h2.mono (Nat.le_trans hB h1.size))
theorem xclone_any (s : ByteArray) (h : s.size ≤ 1048576) (w : World) :
    Calls Tryz.prog 103 #[.string s] w fun e w' => e = .returned (.string s) ∧ Below w.heap.size w w' := by
  have HC := Any.stringslite_Clone Tryz.laysM316 s w (by omega)
  go_enter Tryz.func103, Tryz.ntmps103
  go_wp2_with fail
  refine HC.mono ?_
  rintro e w1 ⟨rfl, hb⟩
  go_wp2
  go_ret
  exact ⟨rfl, hb⟩
theorem valF_ge (l : List Nat) : ∀ n : Nat, n ≤ valF n l := by
  induction l with
  | nil => intro n; exact Nat.le_refl _
  | cons c r ih => intro n; exact Nat.le_trans (by omega) (ih (10 * n + (c - 48)))
theorem parse_digits (M : Nat) (hM : M ≤ 18446744073709551615) (l : List UInt8) : ∀ acc : Nat, (∀ c ∈ l, digitB c.toNat = true) → acc ≤ M →
    Lib.parseUintM M acc l = if valF acc (l.map UInt8.toNat) ≤ M then .ok (valF acc (l.map UInt8.toNat)) else .range := by
  induction l with
  | nil => intro acc _ h; simp [Lib.parseUintM, valF, h]
  | cons c r ih =>
    intro acc hd hacc
    have hc : 48 ≤ c.toNat ∧ c.toNat ≤ 57 := by simpa [digitB] using hd c (by simp)
    have hstep : valF acc ((c :: r).map UInt8.toNat) = valF (acc * 10 + (c.toNat - 48)) (r.map UInt8.toNat) := by
      show valF (10 * acc + (c.toNat - 48)) _ = _
      rw [Nat.mul_comm]
    have hge := valF_ge (r.map UInt8.toNat) (acc * 10 + (c.toNat - 48))
    rw [Lib.parseUintM, if_pos hc, hstep]
    split
    · rw [if_neg (by omega)]
    · split
      · rw [if_neg (by omega)]
      · exact ih _ (fun d hd' => hd d (List.mem_cons_of_mem _ hd')) (by omega)
theorem parse_ds (s : ByteArray) (B T : Nat) (hT : 2 ^ B - 1 = T) (hT2 : T ≤ 18446744073709551615) (hne : bytesN s ≠ []) (hd : ∀ c ∈ bytesN s, digitB c = true) :
    Lib.parseUintB B s.data.toList = if valN (bytesN s) ≤ T then .ok (valN (bytesN s)) else .range := by
  unfold Lib.parseUintB
  rw [if_neg (fun e => hne (by unfold bytesN; rw [e]; rfl)), hT]
  exact parse_digits T hT2 s.data.toList 0 (fun c hc => hd _ (List.mem_map.2 ⟨c, hc, rfl⟩)) (Nat.zero_le _)
def bitsOf (T : Nat) : Int := if T = 255 then 8 else if T = 4294967295 then 32 else 64
theorem xparse_ok (s : ByteArray) (h : s.size ≤ 1048576) (V T : Nat) (hT : T = 255 ∨ T = 4294967295 ∨ T = 18446744073709551615) (hne : bytesN s ≠ []) (hd : ∀ c ∈ bytesN s, digitB c = true) (hV : valN (bytesN s) = V) (hle : V ≤ T) (w : World) :
    Calls Tryz.prog 104 #[.string s, .int .i64 10, .int .i64 (bitsOf T)] w fun e w' => e = .returned (.tuple #[.int .u64 (V : Int), .nilIface]) ∧ Below w.heap.size w w' := by
  subst hV
  rcases hT with rfl | rfl | rfl
  · refine (Any.strconv_ParseUint_10_at8_ok Tryz.laysPu14 s (by omega) _ ((parse_ds s 8 255 rfl (by omega) hne hd).trans (if_pos hle)) w).mono ?_
    rintro e w' ⟨rfl, rfl | rfl⟩
    · exact ⟨rfl, Below.refl _ _⟩
    · exact ⟨rfl, Lib.bytesWorld_below _ _ _⟩
  · refine (Any.strconv_ParseUint_10_at32_ok Tryz.laysPu14 s (by omega) _ ((parse_ds s 32 4294967295 rfl (by omega) hne hd).trans (if_pos hle)) w).mono ?_
    rintro e w' ⟨rfl, rfl | rfl⟩
    · exact ⟨rfl, Below.refl _ _⟩
    · exact ⟨rfl, Lib.bytesWorld_below _ _ _⟩
  · refine (Any.strconv_ParseUint_10_at64_ok Tryz.laysPu14 s (by omega) _ ((parse_ds s 64 18446744073709551615 rfl (by omega) hne hd).trans (if_pos hle)) w).mono ?_
    rintro e w' ⟨rfl, rfl | rfl⟩
    · exact ⟨rfl, Below.refl _ _⟩
    · exact ⟨rfl, Lib.bytesWorld_below _ _ _⟩
theorem xparse_no (s : ByteArray) (h : s.size ≤ 1048576) (V T : Nat) (hT : T = 255 ∨ T = 4294967295 ∨ T = 18446744073709551615) (hne : bytesN s ≠ []) (hd : ∀ c ∈ bytesN s, digitB c = true) (hV : valN (bytesN s) = V) (hle : ¬ V ≤ T) (w : World) (hL : Laid w) :
    Calls Tryz.prog 104 #[.string s, .int .i64 10, .int .i64 (bitsOf T)] w fun e w' => ∃ N, e = .returned (.tuple #[.int .u64 (T : Int), .iface 122 (.pointer (some ⟨N, 0, none⟩))]) ∧ Below w.heap.size w w' := by
  subst hV
  obtain ⟨_, te, pe, hc⟩ := hL
  rcases hT with rfl | rfl | rfl
  · refine (Any.strconv_ParseUint_10_at8_range Tryz.laysPu14 s (by omega) ((parse_ds s 8 255 rfl (by omega) hne hd).trans (if_neg hle)) _ w hc (.inr ⟨te, pe, rfl⟩)).mono ?_
    rintro e w' ⟨N, rfl, _, _, hb⟩
    exact ⟨N, rfl, hb⟩
  · refine (Any.strconv_ParseUint_10_at32_range Tryz.laysPu14 s (by omega) ((parse_ds s 32 4294967295 rfl (by omega) hne hd).trans (if_neg hle)) _ w hc (.inr ⟨te, pe, rfl⟩)).mono ?_
    rintro e w' ⟨N, rfl, _, _, hb⟩
    exact ⟨N, rfl, hb⟩
  · refine (Any.strconv_ParseUint_10_at64_range Tryz.laysPu14 s (by omega) ((parse_ds s 64 18446744073709551615 rfl (by omega) hne hd).trans (if_neg hle)) _ w hc (.inr ⟨te, pe, rfl⟩)).mono ?_
    rintro e w' ⟨N, rfl, _, _, hb⟩
    exact ⟨N, rfl, hb⟩
theorem xwidth_as (x : ByteArray) (T : Nat) (hT : topN (bytesN x) = T) (w : World) : Calls Tryz.prog 105 #[.string x] w fun e w' => e = .returned (.int .i64 (bitsOf T)) ∧ w = w' := by
  have HT : Hid (topN (bytesN x) = T) := hT
  clear hT
  by_cases h1 : bytesN x = [105, 56]
  · have e1 : (x.toList == [105, 56]) = true := by rw [list_is]; simp [h1]
    have HV : Hid (255 = T) := by unfold Hid; rw [← HT.out, h1]; rfl
    clear h1 HT
    go_enter Tryz.func105, Tryz.ntmps105
    go_wp2
    go_ret
    exact ⟨ret_int (by rw [← HV.out]; rfl), rfl⟩
  · have e1 : (x.toList == [105, 56]) = false := by rw [list_is]; simp [h1]
    by_cases h2 : bytesN x = [105, 51, 50]
    · have e2 : (x.toList == [105, 51, 50]) = true := by rw [list_is]; simp [h2]
      have HV : Hid (4294967295 = T) := by unfold Hid; rw [← HT.out, h2]; rfl
      clear h1 h2 HT
      go_enter Tryz.func105, Tryz.ntmps105
      go_wp2
      go_ret
      exact ⟨ret_int (by rw [← HV.out]; rfl), rfl⟩
    · have e2 : (x.toList == [105, 51, 50]) = false := by rw [list_is]; simp [h2]
      have HV : Hid (18446744073709551615 = T) := by unfold Hid; rw [← HT.out]; unfold topN; rw [if_neg h1, if_neg h2]
      clear h1 h2 HT
      go_enter Tryz.func105, Tryz.ntmps105
      go_wp2
      go_ret
      exact ⟨ret_int (by rw [← HV.out]; rfl), rfl⟩
theorem index_run (l : List UInt8) (c : UInt8) : Lib.indexByte l c = if runN (fun d => decide (d ≠ c.toNat)) (l.map UInt8.toNat) < l.length then (runN (fun d => decide (d ≠ c.toNat)) (l.map UInt8.toNat) : Int) else -1 := by
  induction l with
  | nil => rfl
  | cons b r ih =>
    rw [Lib.indexByte]
    by_cases h : b = c
    · subst h
      rw [if_pos (by simp), List.map_cons, runN_stop _ _ _ (by simp)]
      simp
    · have hne : b.toNat ≠ c.toNat := fun e => h (UInt8.toNat_inj.mp e)
      rw [if_neg (by simpa using h), ih, List.map_cons, runN_cons _ _ _ (by simpa using hne)]
      generalize runN (fun d => decide (d ≠ c.toNat)) (r.map UInt8.toNat) = n
      by_cases hlt : n < r.length
      · rw [if_pos hlt, if_neg (by rw [beq_iff_eq]; omega), if_pos (by rw [List.length_cons]; omega)]; omega
      · rw [if_neg hlt, if_pos (by decide), if_neg (by rw [List.length_cons]; omega)]
def tenN (l : List Nat) : Nat := runN (fun d => decide (d ≠ 10)) l
theorem xindex_as (s : ByteArray) (v : Int) (hv : (if tenN (bytesN s) < (bytesN s).length then (tenN (bytesN s) : Int) else -1) = v) (w : World) :
    Calls Tryz.prog 89 #[.string s, .int .u8 10] w fun e w' => e = .returned (.int .i64 v) ∧ w = w' := by
  refine (Any.strings_IndexByte Tryz.lays137 s 10 w).mono ?_
  rintro e w' ⟨rfl, rfl⟩
  refine ⟨ret_int ?_, rfl⟩
  rw [← hv, index_run]
  have e1 : ((10 : Int).toNat.toUInt8).toNat = 10 := rfl
  rw [e1, bytesN_length]
  rfl
theorem ret_ui {x y : Int} (h : x = y) : Ending.returned (.tuple #[.int .u64 x, .nilIface]) = Ending.returned (.tuple #[.int .u64 y, .nilIface]) := by rw [h]
def hexF (n : Nat) (l : List Nat) : Nat := l.foldl (fun n c => 16 * n + hexN c) n
theorem xlower_as (c : Nat) (v : Int) (h : (97 ≤ c ∧ c ≤ 102 ∧ v = c) ∨ (65 ≤ c ∧ c ≤ 70 ∧ v = c + 32)) (w : World) :
    Calls Tryz.prog 124 #[.int .u8 (c : Int)] w fun e w' => e = .returned (.int .u8 v) ∧ w = w' := by
  refine (Any.internal_strconv_lower Tryz.lays321 (c : Int) w).mono ?_
  rintro e w' ⟨rfl, rfl⟩
  refine ⟨ret_int ?_, rfl⟩
  rcases h with ⟨h1, h2, rfl⟩ | ⟨h1, h2, rfl⟩
  · have hc : c = 97 ∨ c = 98 ∨ c = 99 ∨ c = 100 ∨ c = 101 ∨ c = 102 := by omega
    rcases hc with rfl | rfl | rfl | rfl | rfl | rfl <;> decide
  · have hc : c = 65 ∨ c = 66 ∨ c = 67 ∨ c = 68 ∨ c = 69 ∨ c = 70 := by omega
    rcases hc with rfl | rfl | rfl | rfl | rfl | rfl <;> decide
theorem hex_cases (c : Nat) (h : ¬ hexN c = 16) : (48 ≤ c ∧ c ≤ 57 ∧ hexN c = c - 48) ∨ (97 ≤ c ∧ c ≤ 102 ∧ hexN c = c - 97 + 10) ∨ (65 ≤ c ∧ c ≤ 70 ∧ hexN c = c - 65 + 10) := by
  unfold hexN at h ⊢
  by_cases h1 : digitB c = true
  · rw [if_pos h1]; have : 48 ≤ c ∧ c ≤ 57 := by simpa [digitB] using h1
    exact .inl ⟨this.1, this.2, rfl⟩
  · rw [if_neg h1] at h ⊢
    by_cases h2 : 97 ≤ c ∧ c ≤ 102
    · rw [if_pos h2]; exact .inr (.inl ⟨h2.1, h2.2, rfl⟩)
    · rw [if_neg h2] at h ⊢
      by_cases h3 : 65 ≤ c ∧ c ≤ 70
      · rw [if_pos h3]; exact .inr (.inr ⟨h3.1, h3.2, rfl⟩)
      · rw [if_neg h3] at h; exact absurd rfl h
def HexRel (l : List Nat) (V : Nat) (vu vn vi : Value) : Prop := ∃ (k acc : Nat) (a : Int), k ≤ 2 ∧ vu = .bool false ∧ vn = .int .u64 a ∧ a = (acc : Int) ∧ vi = .int .i64 k ∧ hexF acc (l.drop k) = V ∧ acc ≤ 255 ∧ (k = 0 → acc = 0) ∧ (k = 1 → acc ≤ 15)
theorem xhexi (t : ByteArray) (hs : t.size = 2) (V : Nat) (hV : hexF 0 (bytesN t) = V) (hx : ∀ c ∈ bytesN t, ¬ hexN c = 16) (w : World) :
    Calls Tryz.prog 115 #[.string t, .int .i64 16, .int .i64 8] w fun e w' => e = .returned (.tuple #[.int .u64 (V : Int), .nilIface]) ∧ w' = Lib.bytesWorld w 5 t := by
  have hemp : t.toList.isEmpty = false := by
    rw [← decide_eq_emptyBytes]
    exact decide_eq_false (fun h => by rw [h] at hs; simp at hs)
  have hcv := Lib.run_convert_string_bytes (P := Tryz.prog) w 9 110 5 t (u := .string) Tryz.underlying9 Tryz.underlying110 Tryz.underlying5
  have hB : ∀ j, j < t.size → (Lib.bytesWorld w 5 t).cell? ⟨w.heap.size, j, none⟩ = some (.int .u8 (t.data.toList.getD j 0).toNat) := fun j hj => Lib.bytesWorld_cell w 5 t j hj
  obtain ⟨W1, hW1⟩ : ∃ W1, W1 = Lib.bytesWorld w 5 t := ⟨_, rfl⟩
  rw [← hW1] at hcv hB ⊢
  clear hW1
  obtain ⟨l, hl⟩ : ∃ l, Hid (bytesN t = l) := ⟨_, rfl⟩
  have HB : Hid (∀ j (hj : j < 2), W1.cell? ⟨w.heap.size, j, none⟩ = some (.int .u8 ((l.getD j 0 : Nat) : Int))) := by
    intro j hj
    rw [hB j (by omega), ← hl.out]
    have h2 : j < t.data.toList.length := by rw [Array.length_toList]; show j < t.size; omega
    unfold bytesN
    rw [List.getD_eq_getElem?_getD, List.getD_eq_getElem?_getD, List.getElem?_map, List.getElem?_eq_getElem h2]; rfl
  have HL : Hid (l.length = 2) := by unfold Hid; rw [← hl.out, bytesN_length]; exact hs
  have HX : Hid (∀ c ∈ l, ¬ hexN c = 16) := by unfold Hid; rw [← hl.out]; exact hx
  have HV : Hid (hexF 0 l = V) := by unfold Hid; rw [← hl.out]; exact hV
  have hmv : IntKind.u64.wrap (IntKind.u64.wrap 256 - 1) = 255 := by
    rw [IntKind.wrap_u64, IntKind.wrap_u64]
    decide
  clear hB hx hV
  rw [hs] at hcv
  go_enter Tryz.func115, Tryz.ntmps115
  go_wp2_with fail
  go_loop [12, 13, 101] (fun vu vn vi => HexRel l V vu vn vi) (fun _ _ vi => 2 - (intOf vi).toNat)
  case atStart => exact ⟨0, 0, 0, by omega, rfl, rfl, rfl, rfl, by rw [List.drop_zero]; exact HV.out, by omega, fun _ => rfl, fun h => by omega⟩
  case round =>
    obtain ⟨k, acc, a, hk, rfl, rfl, haa, rfl, hF, ha, ha0, ha2⟩ := hrel
    have HAA : Hid (a = (acc : Int)) := haa
    have HF : Hid (hexF acc (l.drop k) = V) := hF
    clear hF
    by_cases hkn : k < 2
    · have a1 : acc ≤ 15 := by omega
      have b0 : 0 ≤ a := by omega
      have b1 : a ≤ 15 := by omega
      have A1 : Hid (acc ≤ 15) := a1
      have A0 : Hid (k = 0 → acc = 0) := ha0
      have hlen : k < l.length := by rw [HL.out]; exact hkn
      obtain ⟨c, hcd⟩ : ∃ c, Hid (l.getD k 0 = c) := ⟨_, rfl⟩
      have hc := HB.out k hkn
      rw [hcd.out] at hc
      have hcl : l[k] = c := by rw [← hcd.out, List.getD_eq_getElem?_getD, List.getElem?_eq_getElem hlen]; rfl
      have hxc := hex_cases c (HX.out c (by rw [← hcl]; exact List.getElem_mem hlen))
      obtain ⟨d, hd⟩ : ∃ d, Hid (hexN c = d) := ⟨_, rfl⟩
      have HF2 : Hid (hexF (16 * acc + d) (l.drop (k + 1)) = V) := by
        unfold Hid
        rw [← HF.out, List.drop_eq_getElem_cons hlen, hcl, ← hd.out]; rfl
      rw [hd.out] at hxc
      clear ha2 ha0 hcl a1 haa ha
      rcases hxc with ⟨h1, h2, h3⟩ | ⟨h1, h2, h3⟩ | ⟨h1, h2, h3⟩
      · have H3 : Hid (d = c - 48) := h3
        have iov : a * 16 + ((c : Int) - 48) ≤ 255 := by omega
        have HN : Hid (a * 16 + ((c : Int) - 48) = ((16 * acc + d : Nat) : Int)) := by have := HAA.out; unfold Hid; omega
        clear h3
        go_wp2
        refine ⟨⟨k + 1, 16 * acc + d, _, by omega, rfl, rfl, HN.out, (by first | rfl | (congr 1; omega)), HF2.out, by have := A1.out; have := H3.out; omega, fun q => by omega, fun q => by have := A0.out (by omega); have := H3.out; omega⟩, by simp [intOf]; omega⟩
      · have H3 : Hid (d = c - 97 + 10) := h3
        have iov : a * 16 + ((c : Int) - 97 + 10) ≤ 255 := by omega
        have HN : Hid (a * 16 + ((c : Int) - 97 + 10) = ((16 * acc + d : Nat) : Int)) := by have := HAA.out; unfold Hid; omega
        clear h3
        go_wp2_with (go_at_call 124; refine (xlower_as c (c : Int) (by omega) _).mono ?_; rintro e w' ⟨rfl, rfl⟩)
        refine ⟨⟨k + 1, 16 * acc + d, _, by omega, rfl, rfl, HN.out, (by first | rfl | (congr 1; omega)), HF2.out, by have := A1.out; have := H3.out; omega, fun q => by omega, fun q => by have := A0.out (by omega); have := H3.out; omega⟩, by simp [intOf]; omega⟩
      · have H3 : Hid (d = c - 65 + 10) := h3
        have iov : a * 16 + ((c : Int) + 32 - 97 + 10) ≤ 255 := by omega
        have HN : Hid (a * 16 + ((c : Int) + 32 - 97 + 10) = ((16 * acc + d : Nat) : Int)) := by have := HAA.out; unfold Hid; omega
        clear h3
        go_wp2_with (go_at_call 124; refine (xlower_as c ((c : Int) + 32) (by omega) _).mono ?_; rintro e w' ⟨rfl, rfl⟩)
        refine ⟨⟨k + 1, 16 * acc + d, _, by omega, rfl, rfl, HN.out, (by first | rfl | (congr 1; omega)), HF2.out, by have := A1.out; have := H3.out; omega, fun q => by omega, fun q => by have := A0.out (by omega); have := H3.out; omega⟩, by simp [intOf]; omega⟩
    · have hkk : k = 2 := by omega
      subst hkk
      have HE : Hid (acc = V) := by unfold Hid; rw [← HF.out, List.drop_eq_nil_of_le (by rw [HL.out]; exact Nat.le_refl _)]; rfl
      go_wp2
      go_ret2
      exact ⟨ret_ui (by rw [HE.out]), rfl⟩
theorem xhex_as (t : ByteArray) (d e : Nat) (ht : bytesN t = [d, e]) (hd : ¬ hexN d = 16) (he : ¬ hexN e = 16) (V : Nat) (hV : 16 * hexN d + hexN e = V) (w : World) :
    Calls Tryz.prog 104 #[.string t, .int .i64 16, .int .i64 8] w fun e w' => e = .returned (.tuple #[.int .u64 (V : Int), .nilIface]) ∧ Below w.heap.size w w' := by
  have hs : t.size = 2 := by rw [← bytesN_length, ht]; rfl
  have HI := xhexi t hs V (by rw [ht, ← hV]; simp [hexF]) (by rw [ht]; intro c hc; simp at hc; rcases hc with rfl | rfl; exact hd; exact he) w
  clear ht hs hV
  go_enter Tryz.func104, Tryz.ntmps104
  go_wp2_with fail
  refine HI.mono ?_
  rintro e w1 ⟨rfl, rfl⟩
  go_wp2
  go_ret2
  exact ⟨rfl, Lib.bytesWorld_below _ _ _⟩
end Go.Proofs.YtmhnbklchnnbaaaGreatDoor
