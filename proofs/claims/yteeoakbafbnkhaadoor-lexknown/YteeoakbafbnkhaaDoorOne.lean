/-
  CONTRACT of the document's one: the token at a place.
-/
import Derived.Test.YteeoakbafbnkhaaDoorText
import Derived.Test.YteeoakbafbnkhaaDoorSigns
import Derived.BigRegion
namespace Go.Proofs.YteeoakbafbnkhaaDoor
open Go.RowKit
set_option linter.unusedVariables false

def oneV (p : Nat) (o : Except (Nat × Nat) (Nat × List Nat × Nat × Nat)) (pl : Int) : Value :=
  match o with
  | .ok (kd, tx, n, len) => .tuple #[.agg #[.int .u8 (kd : Int), .string (strN tx), .int .u64 (n : Int), .int .i64 (p : Int), .int .i64 ((p + len : Nat) : Int)], .int .i64 pl, .int .i64 0]
  | .error (q, e) => .tuple #[.agg #[.int .u8 0, .string ⟨#[]⟩, .int .u64 0, .int .i64 0, .int .i64 0], .int .i64 ((p + q : Nat) : Int), .int .i64 (e : Int)]
theorem oneV_ok (p kd n len : Nat) (tx : List Nat) (pl b : Int) (hb : b = ((p + len : Nat) : Int)) : oneV p (.ok (kd, tx, n, len)) pl = .tuple #[.agg #[.int .u8 (kd : Int), .string (strN tx), .int .u64 (n : Int), .int .i64 (p : Int), .int .i64 b], .int .i64 pl, .int .i64 0] := by
  subst hb; rfl
theorem oneV_no (p q e : Nat) (pl b : Int) (hb : b = ((p + q : Nat) : Int)) : oneV p (.error (q, e)) pl = .tuple #[.agg #[.int .u8 0, .string ⟨#[]⟩, .int .u64 0, .int .i64 0, .int .i64 0], .int .i64 b, .int .i64 (e : Int)] := by
  subst hb; rfl
theorem takeWhile_take (q : Nat → Bool) : ∀ l : List Nat, l.take (l.takeWhile q).length = l.takeWhile q := by
  intro l
  induction l with
  | nil => rfl
  | cons c r ih =>
    rw [List.takeWhile_cons]
    split
    · rw [List.length_cons, List.take_succ_cons, ih]
    · rfl
theorem word_le (l : List Nat) : wordN l ≤ l.length := by unfold wordN; rw [← takeWhile_take, List.length_take]; omega
theorem dig_le (l : List Nat) : digN l ≤ l.length := by unfold digN; rw [← takeWhile_take, List.length_take]; omega
theorem extract_strN (s : ByteArray) (a b : Nat) (l : List Nat) (h : ((bytesN s).drop a).take (b - a) = l) : s.extract a b = strN l := by
  apply bytesN_inj
  rw [bytesN_extract, h, bytesN_strN]
  intro c hc
  rw [← h] at hc
  exact bytesN_lt s c (List.mem_of_mem_drop (List.mem_of_mem_take hc))

set_option maxRecDepth 100000 in
set_option maxHeartbeats 1000000 in
theorem rone_name (s : ByteArray) (p c : Nat) (hp : p < s.size) (h : s.size ≤ 1048576) (hc : (s[p]'hp).toNat = c) (HL : Hid (letterB c = true)) (w : World) :
    Calls Tryd.prog 29 #[.string s, .int .i64 (p : Int)] w fun e w' => (∃ pl, e = .returned (oneV p (oneN ((bytesN s).drop p)) pl)) ∧ Below w.heap.size w w' := by
  obtain ⟨E, hE⟩ : ∃ E, Hid (p + wordN ((bytesN s).drop p) = E) := ⟨_, rfl⟩
  have hEs : E ≤ s.size := by rw [← hE.out]; have := word_le ((bytesN s).drop p); rw [List.length_drop, bytesN_length] at this; omega
  have hpE : p ≤ E := by rw [← hE.out]; omega
  have HX : Hid (s.extract p E = strN (((bytesN s).drop p).takeWhile wordB)) := extract_strN s p E _ (by rw [← hE.out, Nat.add_sub_cancel_left]; exact takeWhile_take _ _)
  have HO : Hid (oneN ((bytesN s).drop p) = .ok (1, ((bytesN s).drop p).takeWhile wordB, 0, wordN ((bytesN s).drop p))) := by
    unfold Hid; rw [bytesN_drop s p hp, hc]; unfold oneN; simp only [HL.out, if_true]
  go_enter Tryd.func29, Tryd.ntmps29
  go_wp2_with fail
  refine (rletter_any c _).mono ?_
  rw [HL.out]
  rintro e wx ⟨rfl, rfl⟩
  go_wp2_with fail
  refine (rwords_as s p p E rfl (by omega) h hE.out _).mono ?_
  rintro e wx ⟨rfl, rfl⟩
  go_wp2
  refine bodyPost_cell3 (g := w.heap.size) (t := 39) rfl rfl rfl (heap_alloc_new w _) Tryd.underlying39 rfl (by kernel_rfl) ?_
  refine ⟨⟨0, ?_⟩, (Below.refl _ _).alloc (Nat.le_refl _) _⟩
  rw [HO.out, oneV_ok p 1 0 _ _ 0 (E : Int) (by rw [hE.out]), ← HX.out]
  rfl

def zeroO : Obj := .cells #[.int .u8 0, .string ⟨#[]⟩, .int .u64 0, .int .i64 0, .int .i64 0] 39
theorem zero_kept {w w2 : World} {g : Nat} (hg : g = w.heap.size) (hb : Below (w.alloc zeroO).heap.size (w.alloc zeroO) w2) : w2.heap[g]? = some zeroO ∧ g < w2.heap.size ∧ Below g w w2 := by
  have hs : (w.alloc zeroO).heap.size = g + 1 := by rw [hg]; exact Array.size_push _
  have h1 := hb.size
  rw [hs] at h1
  refine ⟨?_, by omega, ?_⟩
  · rw [hb.block g (by omega), hg]; exact heap_alloc_new w _
  · refine ((Below.refl g w).alloc (by omega) zeroO).trans (hb.mono (by omega))
theorem set5_size (w : World) (g : Nat) (b0 b1 b2 b3 b4 : Value) : (((((w.setCell ⟨g, 0, none⟩ b0).setCell ⟨g, 1, none⟩ b1).setCell ⟨g, 2, none⟩ b2).setCell ⟨g, 3, none⟩ b3).setCell ⟨g, 4, none⟩ b4).heap.size = w.heap.size := by
  simp [World.setCell]

set_option maxRecDepth 100000 in
set_option maxHeartbeats 1000000 in
theorem rone_num_ok (s : ByteArray) (p c E F VT : Nat) (x : ByteArray) (hp : p < s.size) (h : s.size ≤ 1048576) (hc : (s[p]'hp).toNat = c) (HL : Hid (letterB c = false)) (HD : Hid (digitB c = true))
    (hE : Hid (p + digN ((bytesN s).drop p) = E)) (hV : Hid (valN (((bytesN s).drop p).takeWhile digitB) = VT)) (hF : Hid (E + wordN ((bytesN s).drop E) = F)) (hFs : F ≤ s.size) (hx : Hid (s.extract E F = x))
    (HN : Hid (numRes p F VT x = .tuple #[.agg #[.int .u8 2, .string x, .int .u64 (VT : Int), .int .i64 (p : Int), .int .i64 (F : Int)], .int .i64 0])) (w : World) :
    Calls Tryd.prog 29 #[.string s, .int .i64 (p : Int)] w fun e w' => e = .returned (.tuple #[.agg #[.int .u8 2, .string x, .int .u64 (VT : Int), .int .i64 (p : Int), .int .i64 (F : Int)], .int .i64 (p : Int), .int .i64 0]) ∧ Below w.heap.size w w' := by
  obtain ⟨g, hg⟩ : ∃ g, g = w.heap.size := ⟨_, rfl⟩
  have HG : Hid (g = w.heap.size) := hg
  go_enter Tryd.func29, Tryd.ntmps29
  go_wp2_with fail
  refine (rletter_any c _).mono ?_
  rw [HL.out]
  rintro e wx ⟨rfl, rfl⟩
  go_wp2_with fail
  refine (rdigit_any c _).mono ?_
  rw [HD.out]
  rintro e wx ⟨rfl, rfl⟩
  go_wp2_with fail
  refine (rnumber_as s p p E F VT x rfl (by omega) h hE.out hV.out hF.out hFs hx.out _).mono ?_
  rw [HN.out]
  rintro e w2 ⟨rfl, hb2⟩
  rw [← hg]
  clear hg
  obtain ⟨hblk, hgs, BW⟩ := zero_kept HG.out hb2
  have BW : Hid (Below g w w2) := BW
  unfold zeroO at hblk
  have c0 : w2.cell? ⟨g, 0, none⟩ = some (.int .u8 0) := cell_of_row _ g 0 _ _ _ hblk
  have c1 : w2.cell? ⟨g, 1, none⟩ = some (.string ⟨#[]⟩) := cell_of_row _ g 1 _ _ _ hblk
  have c2 : w2.cell? ⟨g, 2, none⟩ = some (.int .u64 0) := cell_of_row _ g 2 _ _ _ hblk
  have c3 : w2.cell? ⟨g, 3, none⟩ = some (.int .i64 0) := cell_of_row _ g 3 _ _ _ hblk
  have c4 : w2.cell? ⟨g, 4, none⟩ = some (.int .i64 0) := cell_of_row _ g 4 _ _ _ hblk
  have f0 : ∀ j, w2.frozen? ⟨g, j, none⟩ = false := fun j => by simp [World.frozen?, hblk]
  have HBK : Hid (w2.heap[g]? = some (.cells #[.int .u8 0, .string ⟨#[]⟩, .int .u64 0, .int .i64 0, .int .i64 0] 39)) := hblk
  clear hblk hb2
  go_wp2
  refine bodyPost_cell3 (g := g) (t := 39) rfl rfl rfl ((heap_alloc_old _ _ (by rw [set5_size]; exact hgs)).trans (set5_block _ _ _ _ _ _ _ _ _ _ _ _ _ _ HBK.out)) Tryd.underlying39 rfl (by kernel_rfl) ?_
  exact ⟨rfl, by rw [← HG.out]; exact (set5_below BW.out (Nat.le_refl _)).alloc (by rw [set5_size]; omega) _⟩

set_option maxRecDepth 100000 in
set_option maxHeartbeats 1000000 in
theorem rone_num_no (s : ByteArray) (p c E F VT : Nat) (x : ByteArray) (hp : p < s.size) (h : s.size ≤ 1048576) (hc : (s[p]'hp).toNat = c) (HL : Hid (letterB c = false)) (HD : Hid (digitB c = true))
    (hE : Hid (p + digN ((bytesN s).drop p) = E)) (hV : Hid (valN (((bytesN s).drop p).takeWhile digitB) = VT)) (hF : Hid (E + wordN ((bytesN s).drop E) = F)) (hFs : F ≤ s.size) (hx : Hid (s.extract E F = x))
    (HN : Hid (numRes p F VT x = .tuple #[.agg #[.int .u8 0, .string ⟨#[]⟩, .int .u64 0, .int .i64 0, .int .i64 0], .int .i64 33])) (w : World) :
    Calls Tryd.prog 29 #[.string s, .int .i64 (p : Int)] w fun e w' => e = .returned (.tuple #[.agg #[.int .u8 0, .string ⟨#[]⟩, .int .u64 0, .int .i64 0, .int .i64 0], .int .i64 (p : Int), .int .i64 33]) ∧ Below w.heap.size w w' := by
  obtain ⟨g, hg⟩ : ∃ g, g = w.heap.size := ⟨_, rfl⟩
  have HG : Hid (g = w.heap.size) := hg
  go_enter Tryd.func29, Tryd.ntmps29
  go_wp2_with fail
  refine (rletter_any c _).mono ?_
  rw [HL.out]
  rintro e wx ⟨rfl, rfl⟩
  go_wp2_with fail
  refine (rdigit_any c _).mono ?_
  rw [HD.out]
  rintro e wx ⟨rfl, rfl⟩
  go_wp2_with fail
  refine (rnumber_as s p p E F VT x rfl (by omega) h hE.out hV.out hF.out hFs hx.out _).mono ?_
  rw [HN.out]
  rintro e w2 ⟨rfl, hb2⟩
  rw [← hg]
  clear hg
  obtain ⟨hblk, hgs, BW⟩ := zero_kept HG.out hb2
  have BW : Hid (Below g w w2) := BW
  unfold zeroO at hblk
  have c0 : w2.cell? ⟨g, 0, none⟩ = some (.int .u8 0) := cell_of_row _ g 0 _ _ _ hblk
  have c1 : w2.cell? ⟨g, 1, none⟩ = some (.string ⟨#[]⟩) := cell_of_row _ g 1 _ _ _ hblk
  have c2 : w2.cell? ⟨g, 2, none⟩ = some (.int .u64 0) := cell_of_row _ g 2 _ _ _ hblk
  have c3 : w2.cell? ⟨g, 3, none⟩ = some (.int .i64 0) := cell_of_row _ g 3 _ _ _ hblk
  have c4 : w2.cell? ⟨g, 4, none⟩ = some (.int .i64 0) := cell_of_row _ g 4 _ _ _ hblk
  have f0 : ∀ j, w2.frozen? ⟨g, j, none⟩ = false := fun j => by simp [World.frozen?, hblk]
  have HBK : Hid (w2.heap[g]? = some (.cells #[.int .u8 0, .string ⟨#[]⟩, .int .u64 0, .int .i64 0, .int .i64 0] 39)) := hblk
  clear hblk hb2
  go_wp2
  refine bodyPost_cell3 (g := g) (t := 39) rfl rfl rfl ((heap_alloc_old _ _ (by rw [set5_size]; exact hgs)).trans (set5_block _ _ _ _ _ _ _ _ _ _ _ _ _ _ HBK.out)) Tryd.underlying39 rfl (by kernel_rfl) ?_
  exact ⟨rfl, by rw [← HG.out]; exact (set5_below BW.out (Nat.le_refl _)).alloc (by rw [set5_size]; omega) _⟩

set_option maxRecDepth 100000 in
set_option maxHeartbeats 1000000 in
theorem rone_text_ok (s : ByteArray) (p : Nat) (hp : p < s.size) (h : s.size ≤ 1048576) (hc : (s[p]'hp).toNat = 34) (out : List Nat) (m : Nat) (HT : Hid (T ((bytesN s).drop (p + 1)) = .ok (out, m))) (w : World) :
    Calls Tryd.prog 29 #[.string s, .int .i64 (p : Int)] w fun e w' => e = .returned (.tuple #[.agg #[.int .u8 3, .string (strN out), .int .u64 0, .int .i64 (p : Int), .int .i64 ((p + 1 + m : Nat) : Int)], .int .i64 0, .int .i64 0]) ∧ Below w.heap.size w w' := by
  have HL : Hid (letterB 34 = false) := rfl
  have HD : Hid (digitB 34 = false) := rfl
  obtain ⟨M, hM⟩ : ∃ M : Int, Hid (((p + 1 + m : Nat) : Int) = M) := ⟨_, rfl⟩
  obtain ⟨X, hX⟩ : ∃ X, Hid (strN out = X) := ⟨_, rfl⟩
  have HV : Hid (textV p (T ((bytesN s).drop (p + 1))) = .tuple #[.agg #[.int .u8 3, .string (X), .int .u64 0, .int .i64 (p : Int), .int .i64 M], .int .i64 0, .int .i64 0]) := by
    unfold Hid; rw [HT.out]; show Value.tuple #[.agg #[.int .u8 3, .string (strN out), .int .u64 0, .int .i64 (p : Int), .int .i64 ((p + 1 + m : Nat) : Int)], .int .i64 0, .int .i64 0] = _
    rw [hM.out, hX.out]
  rw [hM.out, hX.out]
  obtain ⟨g, hg⟩ : ∃ g, g = w.heap.size := ⟨_, rfl⟩
  have HG : Hid (g = w.heap.size) := hg
  go_enter Tryd.func29, Tryd.ntmps29
  go_wp2_with fail
  refine (rletter_any 34 _).mono ?_
  rw [HL.out]
  rintro e wx ⟨rfl, rfl⟩
  go_wp2_with fail
  refine (rdigit_any 34 _).mono ?_
  rw [HD.out]
  rintro e wx ⟨rfl, rfl⟩
  go_wp2_with fail
  refine (rtext_as s p p _ rfl hp h HV.out _).mono ?_
  rintro e w2 ⟨rfl, hb2⟩
  rw [← hg]
  clear hg
  obtain ⟨hblk, hgs, BW⟩ := zero_kept HG.out hb2
  have BW : Hid (Below g w w2) := BW
  unfold zeroO at hblk
  have c0 : w2.cell? ⟨g, 0, none⟩ = some (.int .u8 0) := cell_of_row _ g 0 _ _ _ hblk
  have c1 : w2.cell? ⟨g, 1, none⟩ = some (.string ⟨#[]⟩) := cell_of_row _ g 1 _ _ _ hblk
  have c2 : w2.cell? ⟨g, 2, none⟩ = some (.int .u64 0) := cell_of_row _ g 2 _ _ _ hblk
  have c3 : w2.cell? ⟨g, 3, none⟩ = some (.int .i64 0) := cell_of_row _ g 3 _ _ _ hblk
  have c4 : w2.cell? ⟨g, 4, none⟩ = some (.int .i64 0) := cell_of_row _ g 4 _ _ _ hblk
  have f0 : ∀ j, w2.frozen? ⟨g, j, none⟩ = false := fun j => by simp [World.frozen?, hblk]
  have HBK : Hid (w2.heap[g]? = some (.cells #[.int .u8 0, .string ⟨#[]⟩, .int .u64 0, .int .i64 0, .int .i64 0] 39)) := hblk
  clear hblk hb2
  go_wp2
  refine bodyPost_cell3 (g := g) (t := 39) rfl rfl rfl (set5_block _ _ _ _ _ _ _ _ _ _ _ _ _ _ HBK.out) Tryd.underlying39 rfl (by kernel_rfl) ?_
  exact ⟨rfl, by rw [← HG.out]; exact set5_below BW.out (Nat.le_refl _)⟩

set_option maxRecDepth 100000 in
set_option maxHeartbeats 1000000 in
theorem rone_text_none (s : ByteArray) (p : Nat) (hp : p < s.size) (h : s.size ≤ 1048576) (hc : (s[p]'hp).toNat = 34) (k : Nat) (HT : Hid (T ((bytesN s).drop (p + 1)) = .error (none, k))) (w : World) :
    Calls Tryd.prog 29 #[.string s, .int .i64 (p : Int)] w fun e w' => e = .returned (.tuple #[.agg #[.int .u8 0, .string ⟨#[]⟩, .int .u64 0, .int .i64 0, .int .i64 0], .int .i64 (p : Int), .int .i64 (k : Int)]) ∧ Below w.heap.size w w' := by
  have HL : Hid (letterB 34 = false) := rfl
  have HD : Hid (digitB 34 = false) := rfl
  have HV : Hid (textV p (T ((bytesN s).drop (p + 1))) = .tuple #[.agg #[.int .u8 0, .string ⟨#[]⟩, .int .u64 0, .int .i64 0, .int .i64 0], .int .i64 (p : Int), .int .i64 (k : Int)]) := by
    unfold Hid; rw [HT.out]; show Value.tuple #[.agg #[.int .u8 0, .string ⟨#[]⟩, .int .u64 0, .int .i64 0, .int .i64 0], .int .i64 (p : Int), .int .i64 (k : Int)] = _
    rfl
  obtain ⟨g, hg⟩ : ∃ g, g = w.heap.size := ⟨_, rfl⟩
  have HG : Hid (g = w.heap.size) := hg
  go_enter Tryd.func29, Tryd.ntmps29
  go_wp2_with fail
  refine (rletter_any 34 _).mono ?_
  rw [HL.out]
  rintro e wx ⟨rfl, rfl⟩
  go_wp2_with fail
  refine (rdigit_any 34 _).mono ?_
  rw [HD.out]
  rintro e wx ⟨rfl, rfl⟩
  go_wp2_with fail
  refine (rtext_as s p p _ rfl hp h HV.out _).mono ?_
  rintro e w2 ⟨rfl, hb2⟩
  rw [← hg]
  clear hg
  obtain ⟨hblk, hgs, BW⟩ := zero_kept HG.out hb2
  have BW : Hid (Below g w w2) := BW
  unfold zeroO at hblk
  have c0 : w2.cell? ⟨g, 0, none⟩ = some (.int .u8 0) := cell_of_row _ g 0 _ _ _ hblk
  have c1 : w2.cell? ⟨g, 1, none⟩ = some (.string ⟨#[]⟩) := cell_of_row _ g 1 _ _ _ hblk
  have c2 : w2.cell? ⟨g, 2, none⟩ = some (.int .u64 0) := cell_of_row _ g 2 _ _ _ hblk
  have c3 : w2.cell? ⟨g, 3, none⟩ = some (.int .i64 0) := cell_of_row _ g 3 _ _ _ hblk
  have c4 : w2.cell? ⟨g, 4, none⟩ = some (.int .i64 0) := cell_of_row _ g 4 _ _ _ hblk
  have f0 : ∀ j, w2.frozen? ⟨g, j, none⟩ = false := fun j => by simp [World.frozen?, hblk]
  have HBK : Hid (w2.heap[g]? = some (.cells #[.int .u8 0, .string ⟨#[]⟩, .int .u64 0, .int .i64 0, .int .i64 0] 39)) := hblk
  clear hblk hb2
  go_wp2
  refine bodyPost_cell3 (g := g) (t := 39) rfl rfl rfl (set5_block _ _ _ _ _ _ _ _ _ _ _ _ _ _ HBK.out) Tryd.underlying39 rfl (by kernel_rfl) ?_
  exact ⟨rfl, by rw [← HG.out]; exact set5_below BW.out (Nat.le_refl _)⟩

set_option maxRecDepth 100000 in
set_option maxHeartbeats 1000000 in
theorem rone_text_some (s : ByteArray) (p : Nat) (hp : p < s.size) (h : s.size ≤ 1048576) (hc : (s[p]'hp).toNat = 34) (q k : Nat) (HT : Hid (T ((bytesN s).drop (p + 1)) = .error (some q, k))) (w : World) :
    Calls Tryd.prog 29 #[.string s, .int .i64 (p : Int)] w fun e w' => e = .returned (.tuple #[.agg #[.int .u8 0, .string ⟨#[]⟩, .int .u64 0, .int .i64 0, .int .i64 0], .int .i64 ((p + 1 + q : Nat) : Int), .int .i64 (k : Int)]) ∧ Below w.heap.size w w' := by
  have HL : Hid (letterB 34 = false) := rfl
  have HD : Hid (digitB 34 = false) := rfl
  obtain ⟨M, hM⟩ : ∃ M : Int, Hid (((p + 1 + q : Nat) : Int) = M) := ⟨_, rfl⟩
  have HV : Hid (textV p (T ((bytesN s).drop (p + 1))) = .tuple #[.agg #[.int .u8 0, .string ⟨#[]⟩, .int .u64 0, .int .i64 0, .int .i64 0], .int .i64 M, .int .i64 (k : Int)]) := by
    unfold Hid; rw [HT.out]; show Value.tuple #[.agg #[.int .u8 0, .string ⟨#[]⟩, .int .u64 0, .int .i64 0, .int .i64 0], .int .i64 ((p + 1 + q : Nat) : Int), .int .i64 (k : Int)] = _
    rw [hM.out]
  rw [hM.out]
  obtain ⟨g, hg⟩ : ∃ g, g = w.heap.size := ⟨_, rfl⟩
  have HG : Hid (g = w.heap.size) := hg
  go_enter Tryd.func29, Tryd.ntmps29
  go_wp2_with fail
  refine (rletter_any 34 _).mono ?_
  rw [HL.out]
  rintro e wx ⟨rfl, rfl⟩
  go_wp2_with fail
  refine (rdigit_any 34 _).mono ?_
  rw [HD.out]
  rintro e wx ⟨rfl, rfl⟩
  go_wp2_with fail
  refine (rtext_as s p p _ rfl hp h HV.out _).mono ?_
  rintro e w2 ⟨rfl, hb2⟩
  rw [← hg]
  clear hg
  obtain ⟨hblk, hgs, BW⟩ := zero_kept HG.out hb2
  have BW : Hid (Below g w w2) := BW
  unfold zeroO at hblk
  have c0 : w2.cell? ⟨g, 0, none⟩ = some (.int .u8 0) := cell_of_row _ g 0 _ _ _ hblk
  have c1 : w2.cell? ⟨g, 1, none⟩ = some (.string ⟨#[]⟩) := cell_of_row _ g 1 _ _ _ hblk
  have c2 : w2.cell? ⟨g, 2, none⟩ = some (.int .u64 0) := cell_of_row _ g 2 _ _ _ hblk
  have c3 : w2.cell? ⟨g, 3, none⟩ = some (.int .i64 0) := cell_of_row _ g 3 _ _ _ hblk
  have c4 : w2.cell? ⟨g, 4, none⟩ = some (.int .i64 0) := cell_of_row _ g 4 _ _ _ hblk
  have f0 : ∀ j, w2.frozen? ⟨g, j, none⟩ = false := fun j => by simp [World.frozen?, hblk]
  have HBK : Hid (w2.heap[g]? = some (.cells #[.int .u8 0, .string ⟨#[]⟩, .int .u64 0, .int .i64 0, .int .i64 0] 39)) := hblk
  clear hblk hb2
  go_wp2
  refine bodyPost_cell3 (g := g) (t := 39) rfl rfl rfl (set5_block _ _ _ _ _ _ _ _ _ _ _ _ _ _ HBK.out) Tryd.underlying39 rfl (by kernel_rfl) ?_
  exact ⟨rfl, by rw [← HG.out]; exact set5_below BW.out (Nat.le_refl _)⟩

theorem signX_at (l : List Nat) (i : Nat) (h : i < 31) (hb : ∀ j, j < i → hasB l (signL.getD j []) = false) (hi : hasB l (signL.getD i []) = true) : signX l = some (signL.getD i []) := by
  have h2 : i < signL.length := h
  have e1 : signL.getD i [] = signL[i] := by rw [List.getD_eq_getElem?_getD, List.getElem?_eq_getElem h2]; rfl
  rw [e1] at hi ⊢
  unfold signX
  rw [List.find?_eq_some_iff_getElem]
  refine ⟨hi, i, h2, rfl, fun j hj => ?_⟩
  have := hb j hj
  rw [List.getD_eq_getElem?_getD, List.getElem?_eq_getElem (by omega)] at this
  simpa using this
theorem signX_none (l : List Nat) (hb : ∀ j, j < 31 → hasB l (signL.getD j []) = false) : signX l = none := by
  unfold signX
  rw [List.find?_eq_none]
  intro x hx
  obtain ⟨j, hj, rfl⟩ := List.getElem_of_mem hx
  have := hb j hj
  rw [List.getD_eq_getElem?_getD, List.getElem?_eq_getElem hj] at this
  simpa using this
theorem sign_bytes (i : Nat) (h : i < 31) : bytesN (signS.getD i ⟨#[]⟩) = signL.getD i [] := by
  have h2 : i < signS.length := h
  rw [← sign_same, List.getD_eq_getElem?_getD, List.getD_eq_getElem?_getD, List.getElem?_map, List.getElem?_eq_getElem h2]; rfl
theorem sign_size (i : Nat) (h : i < 31) : (signS.getD i ⟨#[]⟩).size ≤ 2 := by
  have h2 : i < signS.length := h
  rw [List.getD_eq_getElem?_getD, List.getElem?_eq_getElem h2]
  have : ∀ x ∈ signS, x.size ≤ 2 := by decide
  exact this _ (List.getElem_mem h2)
theorem below_drew {B : Nat} {w w1 : World} (h : Below B w w1) : Below B w w1.drew := ⟨h.os, h.tape, h.output, h.size, h.block⟩
theorem strN_bytesN (x : ByteArray) : strN (bytesN x) = x := by
  apply bytesN_inj; rw [bytesN_strN _ (bytesN_lt x)]
def SignRel (l : List Nat) (i : Value) : Prop := ∃ k : Nat, k ≤ 31 ∧ i = .int .i64 k ∧ ∀ j, j < k → hasB l (signL.getD j []) = false
set_option maxRecDepth 100000 in
set_option maxHeartbeats 2000000 in
theorem rone_sign (s : ByteArray) (p c : Nat) (hp : p < s.size) (h : s.size ≤ 1048576) (hc : (s[p]'hp).toNat = c) (HL : Hid (letterB c = false)) (HD : Hid (digitB c = false)) (hq : ((c : Int) == 34) = false)
    (l : List Nat) (Hl : Hid ((bytesN s).drop p = l)) (w : World) :
    Calls Tryd.prog 29 #[.string s, .int .i64 (p : Int)] w fun e w' => (∃ pl, e = .returned (oneV p (match signX l with | none => .error (0, 30) | some x => .ok (4, x, 0, x.length)) pl)) ∧ Below w.heap.size w w' := by
  obtain ⟨O, hO⟩ : ∃ O : Except (Nat × Nat) (Nat × List Nat × Nat × Nat), Hid ((match signX l with | none => .error (0, 30) | some x => .ok (4, x, 0, x.length)) = O) := ⟨_, rfl⟩
  rw [hO.out]
  obtain ⟨g, hg⟩ : ∃ g, g = w.heap.size := ⟨_, rfl⟩
  have HG : Hid (g = w.heap.size) := hg
  go_enter Tryd.func29, Tryd.ntmps29
  go_wp2_with fail
  refine (rletter_any c _).mono ?_
  rw [HL.out]
  rintro e wx ⟨rfl, rfl⟩
  go_wp2_with fail
  refine (rdigit_any c _).mono ?_
  rw [HD.out]
  rintro e wx ⟨rfl, rfl⟩
  go_wp2_with fail
  refine (rsigns_any _).mono ?_
  rintro e w2 ⟨rfl, hw2⟩
  have hs1 : (w.alloc zeroO).heap.size = g + 1 := by rw [hg]; exact Array.size_push _
  have hb2 : Below (w.alloc zeroO).heap.size (w.alloc zeroO) w2 := by rw [hw2]; exact (Below.refl _ _).alloc (Nat.le_refl _) _
  have hsg : ∀ j, j < 31 → w2.cell? ⟨g + 1, j, none⟩ = some (.string (signS.getD j ⟨#[]⟩)) := by
    intro j hj
    rw [hw2, ← hs1]
    exact (cell_of_row _ _ j _ _ _ (heap_alloc_new _ _)).trans (signV_at j hj)
  have hsz : (w.alloc (.cells #[.int .u8 0, .string ⟨#[]⟩, .int .u64 0, .int .i64 0, .int .i64 0] 39)).heap.size = g + 1 := hs1
  rw [hsz, ← hg]
  have HSG : Hid (∀ j, j < 31 → w2.cell? ⟨g + 1, j, none⟩ = some (.string (signS.getD j ⟨#[]⟩))) := hsg
  clear hw2 hg hs1 hsg hsz
  obtain ⟨hblk, hgs, BW⟩ := zero_kept HG.out hb2
  have BW : Hid (Below g w w2) := BW
  unfold zeroO at hblk
  have c0 : w2.cell? ⟨g, 0, none⟩ = some (.int .u8 0) := cell_of_row _ g 0 _ _ _ hblk
  have c1 : w2.cell? ⟨g, 1, none⟩ = some (.string ⟨#[]⟩) := cell_of_row _ g 1 _ _ _ hblk
  have c2 : w2.cell? ⟨g, 2, none⟩ = some (.int .u64 0) := cell_of_row _ g 2 _ _ _ hblk
  have c3 : w2.cell? ⟨g, 3, none⟩ = some (.int .i64 0) := cell_of_row _ g 3 _ _ _ hblk
  have c4 : w2.cell? ⟨g, 4, none⟩ = some (.int .i64 0) := cell_of_row _ g 4 _ _ _ hblk
  have f0 : ∀ j, w2.frozen? ⟨g, j, none⟩ = false := fun j => by simp [World.frozen?, hblk]
  have HBK : Hid (w2.heap[g]? = some (.cells #[.int .u8 0, .string ⟨#[]⟩, .int .u64 0, .int .i64 0, .int .i64 0] 39)) := hblk
  clear hblk hb2
  go_wp2_with fail
  go_loop [12] (fun i => SignRel l i) (fun i => 31 - (intOf i).toNat)
  case atStart => exact ⟨0, by omega, rfl, fun j hj => by omega⟩
  case round =>
    obtain ⟨k, hk, rfl, hno⟩ := hrel
    have HNO : Hid (∀ j, j < k → hasB l (signL.getD j []) = false) := hno
    clear hno
    by_cases hlt : k < 31
    · obtain ⟨x, hx⟩ : ∃ x, Hid (signS.getD k ⟨#[]⟩ = x) := ⟨_, rfl⟩
      have hcell : w2.cell? ⟨g + 1, k, none⟩ = some (.string x) := by rw [← hx.out]; exact HSG.out k hlt
      have hxs : x.size ≤ 2 := by rw [← hx.out]; exact sign_size k hlt
      have HXB : Hid (bytesN x = signL.getD k []) := by unfold Hid; rw [← hx.out]; exact sign_bytes k hlt
      by_cases hh : hasB l (signL.getD k []) = true
      · have HH : Hid (hasB ((bytesN s).drop p) (bytesN x) = true) := by unfold Hid; rw [HXB.out, Hl.out]; exact hh
        have HO : Hid (O = .ok (4, bytesN x, 0, x.size)) := by
          unfold Hid; rw [← hO.out, signX_at l k hlt HNO.out hh, ← HXB.out]
          show Except.ok (4, bytesN x, 0, (bytesN x).length) = _
          rw [bytesN_length]
        clear hh
        go_wp2_with fail
        refine (rhas_any s x p p rfl (by omega) h (by omega) _).mono ?_
        rw [HH.out]
        rintro e wx ⟨rfl, rfl⟩
        go_wp2_with fail
        go_region
        go_wp2
        refine bodyPost_cell3 (g := g) (t := 39) rfl rfl rfl (set5_block w2 _ _ _ _ _ _ _ _ _ _ _ _ _ HBK.out) Tryd.underlying39 rfl (by kernel_rfl) ?_
        refine ⟨⟨0, ?_⟩, by rw [← HG.out]; exact below_drew (set5_below BW.out (Nat.le_refl _))⟩
        rw [HO.out, oneV_ok p 4 0 x.size _ 0 ((p : Int) + (x.size : Int)) (by omega), strN_bytesN]
        rfl
      · have HH : Hid (hasB ((bytesN s).drop p) (bytesN x) = false) := by unfold Hid; rw [HXB.out, Hl.out]; simpa using hh
        have HNO2 : Hid (∀ j, j < k + 1 → hasB l (signL.getD j []) = false) := by
          intro j hj
          by_cases hjk : j = k
          · subst hjk; simpa using hh
          · exact HNO.out j (by omega)
        clear hh
        go_wp2_with fail
        refine (rhas_any s x p p rfl (by omega) h (by omega) _).mono ?_
        rw [HH.out]
        rintro e wx ⟨rfl, rfl⟩
        go_wp2
        go_round
        case rel => exact ⟨k + 1, by omega, by go_num, HNO2.out⟩
        case measure => simp [intOf]; omega
    · have hk31 : k = 31 := by omega
      have HO : Hid (O = .error (0, 30)) := by
        unfold Hid; rw [← hO.out, signX_none l (by rw [← hk31]; exact HNO.out)]
      subst hk31
      go_wp2
      refine bodyPost_cell3 (g := g) (t := 39) rfl rfl rfl (set5_block _ _ _ _ _ _ _ _ _ _ _ _ _ _ HBK.out) Tryd.underlying39 rfl (by kernel_rfl) ?_
      refine ⟨⟨0, ?_⟩, by rw [← HG.out]; exact set5_below BW.out (Nat.le_refl _)⟩
      rw [HO.out, oneV_no p 0 30 0 (p : Int) (by omega)]
      rfl
end Go.Proofs.YteeoakbafbnkhaaDoor
