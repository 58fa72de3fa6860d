/-
  CONTRACT of the landed lex's read.
-/
import Derived.Test.YteeoakbafbnkhaaDoorXRead
namespace Go.Proofs.YteeoakbafbnkhaaDoor
open Go.RowKit
set_option linter.unusedVariables false

theorem signV_cells (w : World) (j : Nat) (h : j < 31) : (w.alloc (.cells signV 9)).cell? ⟨w.heap.size, j, none⟩ = some (.string (signS.getD j ⟨#[]⟩)) :=
  (cell_of_row _ _ j _ _ _ (heap_alloc_new _ _)).trans (signV_at j h)
theorem ext_bytes (s : ByteArray) (a b : Nat) (l : List Nat) (h : ((bytesN s).drop a).take (b - a) = l) : s.extract a b = strN l := extract_strN s a b l h
set_option maxRecDepth 100000 in
set_option maxHeartbeats 2000000 in
theorem xread_name (s : ByteArray) (p c E : Nat) (x : ByteArray) (R : Value) (hp : p < s.size) (h : s.size ≤ 1048576) (hc : (s[p]'hp).toNat = c) (HL : Hid (letterB c = true)) (HE : Hid (p + wordN ((bytesN s).drop p) = E)) (hpE : p ≤ E) (hEs : E ≤ s.size) (HX : Hid (s.extract p E = x)) (HR : Hid (foundOk 1 0 p E x = R)) (w : World) :
    Calls Tryd.prog 40 #[.string s, .int .i64 (p : Int)] w fun e w' => e = .returned R ∧ Below w.heap.size w w' := by
  obtain ⟨g, hg⟩ : ∃ g, g = w.heap.size := ⟨_, rfl⟩
  have HG : Hid (g = w.heap.size) := hg
  go_enter Tryd.func40, Tryd.ntmps40
  go_wp2_with fail
  refine (xis_any [1] (w.heap.size + 1) 1 c _ rfl (by omega) true (by rw [isB1]; exact HL.out) (kinds1s w _ 1 (by omega) 1 rfl _)).mono ?_
  rintro e wx ⟨rfl, rfl⟩
  obtain ⟨w1, hw1⟩ : ∃ w1, w1 = (w.alloc zeroF).alloc (.cells #[.int .u8 1] 60) := ⟨_, rfl⟩
  have HZ : Hid (ZK g w w1) := by unfold Hid; rw [hw1]; exact (ZK.new hg).alloc _
  unfold zeroF at hw1
  rw [← hw1, ← hg]
  clear hw1 hg
  go_wp2_with fail
  refine (xpast_any s p p E [1, 2] w1.heap.size 2 _ rfl (by omega) h rfl (by omega) (by rw [isB12]; exact HE.out) (kinds2 w1 1 2 (by omega) (by omega) 1 2 rfl rfl _)).mono ?_
  rintro e wx ⟨rfl, rfl⟩
  obtain ⟨w2, hw2⟩ : ∃ w2, w2 = w1.alloc (.cells #[.int .u8 1, .int .u8 2] 60) := ⟨_, rfl⟩
  have HZ2 : Hid (ZK g w w2) := by unfold Hid; rw [hw2]; exact HZ.out.alloc _
  rw [← hw2]
  clear hw2 HZ
  go_wp2_with fail
  refine (xtoken_as 1 s p E p E x rfl rfl hpE hEs h HX.out _).mono ?_
  rintro e w9 ⟨rfl, hb9⟩
  have hz9 : ZK g w w9 := HZ2.out.on hb9
  have HZ3 : Hid (ZK g w w9) := hz9
  clear hz9 hb9
  unfold foundOk
  have hblk := HZ3.out.1
  unfold zeroF at hblk
  have c0 : w9.cell? ⟨g, 0, none⟩ = some (.int .u8 0) := cell_of_row _ g 0 _ _ _ hblk
  have c1 : w9.cell? ⟨g, 1, none⟩ = some (.string ⟨#[]⟩) := cell_of_row _ g 1 _ _ _ hblk
  have c2 : w9.cell? ⟨g, 2, none⟩ = some (.int .u64 0) := cell_of_row _ g 2 _ _ _ hblk
  have c3 : w9.cell? ⟨g, 3, none⟩ = some (.int .i64 0) := cell_of_row _ g 3 _ _ _ hblk
  have c4 : w9.cell? ⟨g, 4, none⟩ = some (.int .i64 0) := cell_of_row _ g 4 _ _ _ hblk
  have c5 : w9.cell? ⟨g, 5, none⟩ = some (.int .i64 0) := cell_of_row _ g 5 _ _ _ hblk
  have c6 : w9.cell? ⟨g, 6, none⟩ = some (.int .i64 0) := cell_of_row _ g 6 _ _ _ hblk
  have f0 : ∀ j, w9.frozen? ⟨g, j, none⟩ = false := fun j => by simp [World.frozen?, hblk]
  have HBK : Hid (w9.heap[g]? = some (.cells #[.int .u8 0, .string ⟨#[]⟩, .int .u64 0, .int .i64 0, .int .i64 0, .int .i64 0, .int .i64 0] 46)) := hblk
  clear hblk
  go_wp2
  refine bodyPost_cell1 (g := g) (t := 46) rfl rfl rfl (set7_block _ _ _ _ _ _ _ _ _ _ _ _ _ _ _ _ _ _ HBK.out) Tryd.underlying46 rfl (by kernel_rfl) ?_
  exact ⟨by rw [← HR.out] <;> rfl, by rw [← HG.out]; exact set7_below HZ3.out.2.1 (Nat.le_refl _)⟩

set_option maxRecDepth 100000 in
set_option maxHeartbeats 2000000 in
theorem xread_num (s : ByteArray) (p c : Nat) (a0 : Int) (a1 : ByteArray) (a2 a3 a4 a5 a6 : Int) (R : Value) (hp : p < s.size) (h : s.size ≤ 1048576) (hc : (s[p]'hp).toNat = c) (HL : Hid (letterB c = false)) (HD : Hid (digitB c = true)) (HF : Hid (foundV p (oneN ((bytesN s).drop p)) = .agg #[.int .u8 a0, .string a1, .int .u64 a2, .int .i64 a3, .int .i64 a4, .int .i64 a5, .int .i64 a6])) (HR : Hid (.agg #[.int .u8 a0, .string a1, .int .u64 a2, .int .i64 a3, .int .i64 a4, .int .i64 a5, .int .i64 a6] = R)) (w : World) (HLD : Hid (Laid w)) :
    Calls Tryd.prog 40 #[.string s, .int .i64 (p : Int)] w fun e w' => e = .returned R ∧ Below w.heap.size w w' := by
  obtain ⟨g, hg⟩ : ∃ g, g = w.heap.size := ⟨_, rfl⟩
  have HG : Hid (g = w.heap.size) := hg
  go_enter Tryd.func40, Tryd.ntmps40
  go_wp2_with fail
  refine (xis_any [1] (w.heap.size + 1) 1 c _ rfl (by omega) false (by rw [isB1]; exact HL.out) (kinds1s w _ 1 (by omega) 1 rfl _)).mono ?_
  rintro e wx ⟨rfl, rfl⟩
  obtain ⟨w1, hw1⟩ : ∃ w1, w1 = (w.alloc zeroF).alloc (.cells #[.int .u8 1] 60) := ⟨_, rfl⟩
  have HZ : Hid (ZK g w w1) := by unfold Hid; rw [hw1]; exact (ZK.new hg).alloc _
  unfold zeroF at hw1
  rw [← hw1, ← hg]
  clear hw1 hg
  go_wp2_with fail
  refine (xis_any [2] w1.heap.size 1 c _ rfl (by omega) true (by rw [isB2]; exact HD.out) (kinds1 w1 2 (by omega) 2 rfl _)).mono ?_
  rintro e wx ⟨rfl, rfl⟩
  obtain ⟨w2, hw2⟩ : ∃ w2, w2 = w1.alloc (.cells #[.int .u8 2] 60) := ⟨_, rfl⟩
  have HZ2 : Hid (ZK g w w2) := by unfold Hid; rw [hw2]; exact HZ.out.alloc _
  rw [← hw2]
  clear hw2 HZ
  have HL2 : Hid (Laid w2) := HLD.out.below HZ2.out.2.1 (by rw [HG.out]; exact HLD.out.1)
  go_wp2_with fail
  refine (xnumber_as s p p c rfl hp h hc HD.out _ HL2.out).mono ?_
  rintro e w9 ⟨rfl, hb9⟩
  have hz9 : ZK g w w9 := HZ2.out.on hb9
  have HZ3 : Hid (ZK g w w9) := hz9
  clear hz9 hb9
  rw [HF.out]
  have hblk := HZ3.out.1
  unfold zeroF at hblk
  have c0 : w9.cell? ⟨g, 0, none⟩ = some (.int .u8 0) := cell_of_row _ g 0 _ _ _ hblk
  have c1 : w9.cell? ⟨g, 1, none⟩ = some (.string ⟨#[]⟩) := cell_of_row _ g 1 _ _ _ hblk
  have c2 : w9.cell? ⟨g, 2, none⟩ = some (.int .u64 0) := cell_of_row _ g 2 _ _ _ hblk
  have c3 : w9.cell? ⟨g, 3, none⟩ = some (.int .i64 0) := cell_of_row _ g 3 _ _ _ hblk
  have c4 : w9.cell? ⟨g, 4, none⟩ = some (.int .i64 0) := cell_of_row _ g 4 _ _ _ hblk
  have c5 : w9.cell? ⟨g, 5, none⟩ = some (.int .i64 0) := cell_of_row _ g 5 _ _ _ hblk
  have c6 : w9.cell? ⟨g, 6, none⟩ = some (.int .i64 0) := cell_of_row _ g 6 _ _ _ hblk
  have f0 : ∀ j, w9.frozen? ⟨g, j, none⟩ = false := fun j => by simp [World.frozen?, hblk]
  have HBK : Hid (w9.heap[g]? = some (.cells #[.int .u8 0, .string ⟨#[]⟩, .int .u64 0, .int .i64 0, .int .i64 0, .int .i64 0, .int .i64 0] 46)) := hblk
  clear hblk
  go_wp2
  refine bodyPost_cell1 (g := g) (t := 46) rfl rfl rfl (set7_block _ _ _ _ _ _ _ _ _ _ _ _ _ _ _ _ _ _ HBK.out) Tryd.underlying46 rfl (by kernel_rfl) ?_
  exact ⟨by rw [← HR.out] <;> rfl, by rw [← HG.out]; exact set7_below HZ3.out.2.1 (Nat.le_refl _)⟩

set_option maxRecDepth 100000 in
set_option maxHeartbeats 2000000 in
theorem xread_text (s : ByteArray) (p : Nat) (a0 : Int) (a1 : ByteArray) (a2 a3 a4 a5 a6 : Int) (R : Value) (hp : p < s.size) (h : s.size ≤ 1048576) (hc : (s[p]'hp).toNat = 34) (HF : Hid (textF p (T ((bytesN s).drop (p + 1))) = .agg #[.int .u8 a0, .string a1, .int .u64 a2, .int .i64 a3, .int .i64 a4, .int .i64 a5, .int .i64 a6])) (HR : Hid (.agg #[.int .u8 a0, .string a1, .int .u64 a2, .int .i64 a3, .int .i64 a4, .int .i64 a5, .int .i64 a6] = R)) (w : World) :
    Calls Tryd.prog 40 #[.string s, .int .i64 (p : Int)] w fun e w' => e = .returned R ∧ Below w.heap.size w w' := by
  have HL : Hid (letterB 34 = false) := rfl
  have HD : Hid (digitB 34 = false) := rfl
  obtain ⟨g, hg⟩ : ∃ g, g = w.heap.size := ⟨_, rfl⟩
  have HG : Hid (g = w.heap.size) := hg
  go_enter Tryd.func40, Tryd.ntmps40
  go_wp2_with fail
  refine (xis_any [1] (w.heap.size + 1) 1 34 _ rfl (by omega) false (by rw [isB1]; exact HL.out) (kinds1s w _ 1 (by omega) 1 rfl _)).mono ?_
  rintro e wx ⟨rfl, rfl⟩
  obtain ⟨w1, hw1⟩ : ∃ w1, w1 = (w.alloc zeroF).alloc (.cells #[.int .u8 1] 60) := ⟨_, rfl⟩
  have HZ : Hid (ZK g w w1) := by unfold Hid; rw [hw1]; exact (ZK.new hg).alloc _
  unfold zeroF at hw1
  rw [← hw1, ← hg]
  clear hw1 hg
  go_wp2_with fail
  refine (xis_any [2] w1.heap.size 1 34 _ rfl (by omega) false (by rw [isB2]; exact HD.out) (kinds1 w1 2 (by omega) 2 rfl _)).mono ?_
  rintro e wx ⟨rfl, rfl⟩
  obtain ⟨w2, hw2⟩ : ∃ w2, w2 = w1.alloc (.cells #[.int .u8 2] 60) := ⟨_, rfl⟩
  have HZ2 : Hid (ZK g w w2) := by unfold Hid; rw [hw2]; exact HZ.out.alloc _
  rw [← hw2]
  clear hw2 HZ
  go_wp2_with fail
  refine (xtext_as s p p _ rfl hp h HF.out _).mono ?_
  rintro e w9 ⟨rfl, hb9⟩
  have hz9 : ZK g w w9 := HZ2.out.on hb9
  have HZ3 : Hid (ZK g w w9) := hz9
  clear hz9 hb9
  have hblk := HZ3.out.1
  unfold zeroF at hblk
  have c0 : w9.cell? ⟨g, 0, none⟩ = some (.int .u8 0) := cell_of_row _ g 0 _ _ _ hblk
  have c1 : w9.cell? ⟨g, 1, none⟩ = some (.string ⟨#[]⟩) := cell_of_row _ g 1 _ _ _ hblk
  have c2 : w9.cell? ⟨g, 2, none⟩ = some (.int .u64 0) := cell_of_row _ g 2 _ _ _ hblk
  have c3 : w9.cell? ⟨g, 3, none⟩ = some (.int .i64 0) := cell_of_row _ g 3 _ _ _ hblk
  have c4 : w9.cell? ⟨g, 4, none⟩ = some (.int .i64 0) := cell_of_row _ g 4 _ _ _ hblk
  have c5 : w9.cell? ⟨g, 5, none⟩ = some (.int .i64 0) := cell_of_row _ g 5 _ _ _ hblk
  have c6 : w9.cell? ⟨g, 6, none⟩ = some (.int .i64 0) := cell_of_row _ g 6 _ _ _ hblk
  have f0 : ∀ j, w9.frozen? ⟨g, j, none⟩ = false := fun j => by simp [World.frozen?, hblk]
  have HBK : Hid (w9.heap[g]? = some (.cells #[.int .u8 0, .string ⟨#[]⟩, .int .u64 0, .int .i64 0, .int .i64 0, .int .i64 0, .int .i64 0] 46)) := hblk
  clear hblk
  go_wp2
  refine bodyPost_cell1 (g := g) (t := 46) rfl rfl rfl (set7_block _ _ _ _ _ _ _ _ _ _ _ _ _ _ _ _ _ _ HBK.out) Tryd.underlying46 rfl (by kernel_rfl) ?_
  exact ⟨by rw [← HR.out] <;> rfl, by rw [← HG.out]; exact set7_below HZ3.out.2.1 (Nat.le_refl _)⟩

set_option maxRecDepth 100000 in
set_option maxHeartbeats 2000000 in
theorem xread_sign (s : ByteArray) (p c F : Nat) (x : ByteArray) (R : Value) (hp : p < s.size) (h : s.size ≤ 1048576) (hc : (s[p]'hp).toNat = c) (HL : Hid (letterB c = false)) (HD : Hid (digitB c = false)) (hq : ((c : Int) == 34) = false)
    (HX : Hid (firstW ((bytesN s).drop p) signS = x)) (hxe : (x.toList == []) = false) (hxs : x.size ≤ 10) (hF : p + x.size = F) (hFs : F ≤ s.size) (HE : Hid (s.extract p F = x)) (HR : Hid (foundOk 4 0 p F x = R)) (w : World) :
    Calls Tryd.prog 40 #[.string s, .int .i64 (p : Int)] w fun e w' => e = .returned R ∧ Below w.heap.size w w' := by
  obtain ⟨u, hu⟩ : ∃ u, Hid (s.extract p s.size = u) := ⟨_, rfl⟩
  have hue : s.extract p s.size = u := hu.out
  have HUB : Hid (bytesN u = (bytesN s).drop p) := by unfold Hid; rw [← hue]; exact tail_bytes s p (by omega)
  have hus : u.size ≤ 1048576 := by rw [← hue, tail_size s p (by omega)]; omega
  have hFi : (p : Int) + (x.size : Int) = (F : Int) := by omega
  have hpF : p ≤ F := by omega
  clear hF
  obtain ⟨g, hg⟩ : ∃ g, g = w.heap.size := ⟨_, rfl⟩
  have HG : Hid (g = w.heap.size) := hg
  go_enter Tryd.func40, Tryd.ntmps40
  go_wp2_with fail
  refine (xis_any [1] (w.heap.size + 1) 1 c _ rfl (by omega) false (by rw [isB1]; exact HL.out) (kinds1s w _ 1 (by omega) 1 rfl _)).mono ?_
  rintro e wx ⟨rfl, rfl⟩
  obtain ⟨w1, hw1⟩ : ∃ w1, w1 = (w.alloc zeroF).alloc (.cells #[.int .u8 1] 60) := ⟨_, rfl⟩
  have HZ : Hid (ZK g w w1) := by unfold Hid; rw [hw1]; exact (ZK.new hg).alloc _
  unfold zeroF at hw1
  rw [← hw1, ← hg]
  clear hw1 hg
  go_wp2_with fail
  refine (xis_any [2] w1.heap.size 1 c _ rfl (by omega) false (by rw [isB2]; exact HD.out) (kinds1 w1 2 (by omega) 2 rfl _)).mono ?_
  rintro e wx ⟨rfl, rfl⟩
  obtain ⟨w2, hw2⟩ : ∃ w2, w2 = w1.alloc (.cells #[.int .u8 2] 60) := ⟨_, rfl⟩
  have HZ2 : Hid (ZK g w w2) := by unfold Hid; rw [hw2]; exact HZ.out.alloc _
  rw [← hw2]
  clear hw2 HZ
  go_wp2_with fail
  refine (xfirst_any u hus signS w2.heap.size 31 _ rfl (by omega) signS_size x (by rw [HUB.out]; exact HX.out) (signV_cells w2)).mono ?_
  rintro e wx ⟨rfl, rfl⟩
  have HZ4 : Hid (ZK g w (w2.alloc (.cells signV 9))) := HZ2.out.alloc _
  obtain ⟨w4, hw4⟩ : ∃ w4, w4 = w2.alloc (.cells signV 9) := ⟨_, rfl⟩
  rw [← hw4] at HZ4
  rw [← hw4]
  clear hw4 HZ2
  go_wp2_with fail
  refine (xtoken_as 4 s p F p F x rfl rfl hpF hFs h HE.out _).mono ?_
  rintro e w9 ⟨rfl, hb9⟩
  have hz9 : ZK g w w9 := HZ4.out.on hb9
  have HZ3 : Hid (ZK g w w9) := hz9
  clear hz9 hb9
  unfold foundOk
  have hblk := HZ3.out.1
  unfold zeroF at hblk
  have c0 : w9.cell? ⟨g, 0, none⟩ = some (.int .u8 0) := cell_of_row _ g 0 _ _ _ hblk
  have c1 : w9.cell? ⟨g, 1, none⟩ = some (.string ⟨#[]⟩) := cell_of_row _ g 1 _ _ _ hblk
  have c2 : w9.cell? ⟨g, 2, none⟩ = some (.int .u64 0) := cell_of_row _ g 2 _ _ _ hblk
  have c3 : w9.cell? ⟨g, 3, none⟩ = some (.int .i64 0) := cell_of_row _ g 3 _ _ _ hblk
  have c4 : w9.cell? ⟨g, 4, none⟩ = some (.int .i64 0) := cell_of_row _ g 4 _ _ _ hblk
  have c5 : w9.cell? ⟨g, 5, none⟩ = some (.int .i64 0) := cell_of_row _ g 5 _ _ _ hblk
  have c6 : w9.cell? ⟨g, 6, none⟩ = some (.int .i64 0) := cell_of_row _ g 6 _ _ _ hblk
  have f0 : ∀ j, w9.frozen? ⟨g, j, none⟩ = false := fun j => by simp [World.frozen?, hblk]
  have HBK : Hid (w9.heap[g]? = some (.cells #[.int .u8 0, .string ⟨#[]⟩, .int .u64 0, .int .i64 0, .int .i64 0, .int .i64 0, .int .i64 0] 46)) := hblk
  clear hblk
  go_wp2
  refine bodyPost_cell1 (g := g) (t := 46) rfl rfl rfl (set7_block _ _ _ _ _ _ _ _ _ _ _ _ _ _ _ _ _ _ HBK.out) Tryd.underlying46 rfl (by kernel_rfl) ?_
  exact ⟨by rw [← HR.out] <;> rfl, by rw [← HG.out]; exact set7_below HZ3.out.2.1 (Nat.le_refl _)⟩

set_option maxRecDepth 100000 in
set_option maxHeartbeats 2000000 in
theorem xread_none (s : ByteArray) (p c : Nat) (R : Value) (hp : p < s.size) (h : s.size ≤ 1048576) (hc : (s[p]'hp).toNat = c) (HL : Hid (letterB c = false)) (HD : Hid (digitB c = false)) (hq : ((c : Int) == 34) = false)
    (HX0 : Hid (firstW ((bytesN s).drop p) signS = ⟨#[]⟩)) (HR : Hid (foundNo p p 30 = R)) (w : World) :
    Calls Tryd.prog 40 #[.string s, .int .i64 (p : Int)] w fun e w' => e = .returned R ∧ Below w.heap.size w w' := by
  obtain ⟨u, hu⟩ : ∃ u, Hid (s.extract p s.size = u) := ⟨_, rfl⟩
  have hue : s.extract p s.size = u := hu.out
  have HUB : Hid (bytesN u = (bytesN s).drop p) := by unfold Hid; rw [← hue]; exact tail_bytes s p (by omega)
  have hus : u.size ≤ 1048576 := by rw [← hue, tail_size s p (by omega)]; omega
  obtain ⟨x, hx⟩ : ∃ x, Hid ((⟨#[]⟩ : ByteArray) = x) := ⟨_, rfl⟩
  have HX : Hid (firstW ((bytesN s).drop p) signS = x) := by unfold Hid; rw [← hx.out]; exact HX0.out
  have hxe : (x.toList == []) = true := by rw [list_is, ← hx.out]; rfl
  obtain ⟨g, hg⟩ : ∃ g, g = w.heap.size := ⟨_, rfl⟩
  have HG : Hid (g = w.heap.size) := hg
  go_enter Tryd.func40, Tryd.ntmps40
  go_wp2_with fail
  refine (xis_any [1] (w.heap.size + 1) 1 c _ rfl (by omega) false (by rw [isB1]; exact HL.out) (kinds1s w _ 1 (by omega) 1 rfl _)).mono ?_
  rintro e wx ⟨rfl, rfl⟩
  obtain ⟨w1, hw1⟩ : ∃ w1, w1 = (w.alloc zeroF).alloc (.cells #[.int .u8 1] 60) := ⟨_, rfl⟩
  have HZ : Hid (ZK g w w1) := by unfold Hid; rw [hw1]; exact (ZK.new hg).alloc _
  unfold zeroF at hw1
  rw [← hw1, ← hg]
  clear hw1 hg
  go_wp2_with fail
  refine (xis_any [2] w1.heap.size 1 c _ rfl (by omega) false (by rw [isB2]; exact HD.out) (kinds1 w1 2 (by omega) 2 rfl _)).mono ?_
  rintro e wx ⟨rfl, rfl⟩
  obtain ⟨w2, hw2⟩ : ∃ w2, w2 = w1.alloc (.cells #[.int .u8 2] 60) := ⟨_, rfl⟩
  have HZ2 : Hid (ZK g w w2) := by unfold Hid; rw [hw2]; exact HZ.out.alloc _
  rw [← hw2]
  clear hw2 HZ
  go_wp2_with fail
  refine (xfirst_any u hus signS w2.heap.size 31 _ rfl (by omega) signS_size x (by rw [HUB.out]; exact HX.out) (signV_cells w2)).mono ?_
  rintro e wx ⟨rfl, rfl⟩
  have HZ4 : Hid (ZK g w (w2.alloc (.cells signV 9))) := HZ2.out.alloc _
  obtain ⟨w4, hw4⟩ : ∃ w4, w4 = w2.alloc (.cells signV 9) := ⟨_, rfl⟩
  rw [← hw4] at HZ4
  rw [← hw4]
  clear hw4 HZ2
  go_wp2_with fail
  refine (xfault_any p p 30 _).mono ?_
  rintro e w9 ⟨rfl, hb9⟩
  have hz9 : ZK g w w9 := HZ4.out.on hb9
  have HZ3 : Hid (ZK g w w9) := hz9
  clear hz9 hb9
  unfold foundNo
  have hblk := HZ3.out.1
  unfold zeroF at hblk
  have c0 : w9.cell? ⟨g, 0, none⟩ = some (.int .u8 0) := cell_of_row _ g 0 _ _ _ hblk
  have c1 : w9.cell? ⟨g, 1, none⟩ = some (.string ⟨#[]⟩) := cell_of_row _ g 1 _ _ _ hblk
  have c2 : w9.cell? ⟨g, 2, none⟩ = some (.int .u64 0) := cell_of_row _ g 2 _ _ _ hblk
  have c3 : w9.cell? ⟨g, 3, none⟩ = some (.int .i64 0) := cell_of_row _ g 3 _ _ _ hblk
  have c4 : w9.cell? ⟨g, 4, none⟩ = some (.int .i64 0) := cell_of_row _ g 4 _ _ _ hblk
  have c5 : w9.cell? ⟨g, 5, none⟩ = some (.int .i64 0) := cell_of_row _ g 5 _ _ _ hblk
  have c6 : w9.cell? ⟨g, 6, none⟩ = some (.int .i64 0) := cell_of_row _ g 6 _ _ _ hblk
  have f0 : ∀ j, w9.frozen? ⟨g, j, none⟩ = false := fun j => by simp [World.frozen?, hblk]
  have HBK : Hid (w9.heap[g]? = some (.cells #[.int .u8 0, .string ⟨#[]⟩, .int .u64 0, .int .i64 0, .int .i64 0, .int .i64 0, .int .i64 0] 46)) := hblk
  clear hblk
  go_wp2
  refine bodyPost_cell1 (g := g) (t := 46) rfl rfl rfl (set7_block _ _ _ _ _ _ _ _ _ _ _ _ _ _ _ _ _ _ HBK.out) Tryd.underlying46 rfl (by kernel_rfl) ?_
  exact ⟨by rw [← HR.out] <;> rfl, by rw [← HG.out]; exact set7_below HZ3.out.2.1 (Nat.le_refl _)⟩

end Go.Proofs.YteeoakbafbnkhaaDoor
