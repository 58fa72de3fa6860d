/-
  CONTRACT of the landed lex's readNumber: the walk.
-/
import Derived.Test.YteeoakbafbnkhaaDoorXNum
namespace Go.Proofs.YteeoakbafbnkhaaDoor
open Go.RowKit
set_option linter.unusedVariables false

theorem sfxS_size (j : Nat) : (sfxS.getD j ⟨#[]⟩).size ≤ 10 := by
  match j with
  | 0 => decide
  | 1 => decide
  | 2 => decide
  | n + 3 => exact Nat.zero_le _
theorem sfxS_cells (w : World) (i : Nat) (h : i < 3) : (w.alloc (.cells #[.string ⟨#[105, 56]⟩, .string ⟨#[105, 51, 50]⟩, .string ⟨#[105, 54, 52]⟩] 9)).cell? ⟨w.heap.size, i, none⟩ = some (.string (sfxS.getD i ⟨#[]⟩)) := by
  match i, h with
  | 0, _ => exact cell_of_row _ _ 0 _ _ _ (heap_alloc_new _ _)
  | 1, _ => exact cell_of_row _ _ 1 _ _ _ (heap_alloc_new _ _)
  | 2, _ => exact cell_of_row _ _ 2 _ _ _ (heap_alloc_new _ _)

theorem kinds1s (w : World) (o : Obj) (k : Nat) (hk : k < 5) (v : Int) (hv : v = k) (t : TypeId) : KindsAt ((w.alloc o).alloc (.cells #[.int .u8 v] t)) (w.heap.size + 1) [k] := by
  have hs : (w.alloc o).heap.size = w.heap.size + 1 := Array.size_push _
  rw [← hs]; exact kinds1 (w.alloc o) k hk v hv t

/-- The call's own result's variable, block g, is as it was made. -/
def ZK (g : Nat) (w w1 : World) : Prop := w1.heap[g]? = some zeroF ∧ Below g w w1 ∧ g < w1.heap.size
theorem ZK.on {g : Nat} {w w1 w2 : World} (h : ZK g w w1) (hb : Below w1.heap.size w1 w2) : ZK g w w2 :=
  ⟨by rw [hb.block g h.2.2]; exact h.1, h.2.1.trans (hb.mono (Nat.le_of_lt h.2.2)), Nat.lt_of_lt_of_le h.2.2 hb.size⟩
theorem ZK.alloc {g : Nat} {w w1 : World} (h : ZK g w w1) (o : Obj) : ZK g w (w1.alloc o) := h.on ((Below.refl _ _).alloc (Nat.le_refl _) _)
theorem ZK.new {g : Nat} {w : World} (hg : g = w.heap.size) : ZK g w (w.alloc zeroF) := by
  have hs : (w.alloc zeroF).heap.size = w.heap.size + 1 := Array.size_push _
  exact ⟨by rw [hg]; exact heap_alloc_new w _, (Below.refl g w).alloc (by omega) _, by omega⟩

set_option maxRecDepth 100000 in
set_option maxHeartbeats 2000000 in
theorem xnum_end (s : ByteArray) (p E F V TP : Nat) (x t : ByteArray) (hp : p < s.size) (h : s.size ≤ 1048576) (hE : p + digN ((bytesN s).drop p) = E) (hpE : p < E) (hEs : E ≤ s.size) (ht : s.extract p E = t)
    (hx : firstW ((bytesN s).drop E) sfxS = x) (hF : E + x.size = F) (hFs : F ≤ s.size) (hts : t.size ≤ 1048576) (hTP : topN (bytesN x) = TP) (hTP2 : TP = 255 ∨ TP = 4294967295 ∨ TP = 18446744073709551615) (hne : bytesN t ≠ []) (hd : ∀ c ∈ bytesN t, digitB c = true) (hV : valN (bytesN t) = V) (hle : V ≤ TP)
    (hend : F = s.size) (w : World) :
    Calls Tryd.prog 52 #[.string s, .int .i64 (p : Int)] w fun e w' => e = .returned (foundOk 2 V p F x) ∧ Below w.heap.size w w' := by
  have HE : Hid (p + digN ((bytesN s).drop p) = E) := hE
  have HX : Hid (firstW ((bytesN s).drop E) sfxS = x) := hx
  have HF : Hid (E + x.size = F) := hF
  have HT : Hid (topN (bytesN x) = TP) := hTP
  have HT2 : Hid (TP = 255 ∨ TP = 4294967295 ∨ TP = 18446744073709551615) := hTP2
  have HN : Hid (bytesN t ≠ []) := hne
  have HD : Hid (∀ c ∈ bytesN t, digitB c = true) := hd
  have HV : Hid (valN (bytesN t) = V) := hV
  have HL : Hid (V ≤ TP) := hle
  have hFi : (E : Int) + (x.size : Int) = (F : Int) := by omega
  have hFj : (p : Int) ≤ (E : Int) := by omega
  have hFn : ¬ (F : Int) < (s.size : Int) := by omega
  clear hend
  obtain ⟨u, hu⟩ : ∃ u, Hid (s.extract E s.size = u) := ⟨_, rfl⟩
  have hue : s.extract E s.size = u := hu.out
  have HUB : Hid (bytesN u = (bytesN s).drop E) := by unfold Hid; rw [← hue]; exact tail_bytes s E hEs
  have hus : u.size ≤ 1048576 := by rw [← hue, tail_size s E hEs]; omega
  clear hE hx hF hTP hTP2 hne hd hV hle
  obtain ⟨g, hg⟩ : ∃ g, g = w.heap.size := ⟨_, rfl⟩
  have HG : Hid (g = w.heap.size) := hg
  go_enter Tryd.func52, Tryd.ntmps52
  go_wp2_with fail
  refine (xpast_any s p p E [2] (w.heap.size + 1) 1 _ rfl (by omega) h rfl (by omega) (by rw [isB2]; exact HE.out) (kinds1s w _ 2 (by omega) 2 rfl _)).mono ?_
  rintro e wx ⟨rfl, rfl⟩
  obtain ⟨w1, hw1⟩ : ∃ w1, w1 = (w.alloc zeroF).alloc (.cells #[.int .u8 2] 60) := ⟨_, rfl⟩
  have HZ : Hid (ZK g w w1) := by unfold Hid; rw [hw1]; exact (ZK.new hg).alloc _
  unfold zeroF at hw1
  rw [← hw1, ← hg]
  clear hw1 hg
  go_wp2_with fail
  refine (xfirst_any u hus sfxS w1.heap.size 3 _ rfl (by omega) sfxS_size x (by rw [HUB.out]; exact HX.out) (sfxS_cells w1)).mono ?_
  rintro e wx ⟨rfl, rfl⟩
  obtain ⟨w2, hw2⟩ : ∃ w2, w2 = w1.alloc (.cells #[.string ⟨#[105, 56]⟩, .string ⟨#[105, 51, 50]⟩, .string ⟨#[105, 54, 52]⟩] 9) := ⟨_, rfl⟩
  have HZ2 : Hid (ZK g w w2) := by unfold Hid; rw [hw2]; exact HZ.out.alloc _
  rw [← hw2]
  clear hw2 HZ
  go_wp2_with fail
  go_region_with (first | (go_at_call 65; refine (xwidth_as x TP HT.out _).mono ?_; rintro e wx ⟨rfl, rfl⟩) | (go_at_call 64; refine (xparse_ok t hts V TP HT2.out HN.out HD.out HV.out HL.out _).mono ?_; rintro e w3 ⟨rfl, hb3⟩; have hz3 : ZK g w w3 := HZ2.out.on ((Below.refl _ _).drew.trans hb3); have HZ3 : Hid (ZK g w w3) := hz3; clear hz3 hb3))
  all_goals
    have hblk := HZ3.out.1
    unfold zeroF at hblk
    have c0 : w3.cell? ⟨g, 0, none⟩ = some (.int .u8 0) := cell_of_row _ g 0 _ _ _ hblk
    have c1 : w3.cell? ⟨g, 1, none⟩ = some (.string ⟨#[]⟩) := cell_of_row _ g 1 _ _ _ hblk
    have c2 : w3.cell? ⟨g, 2, none⟩ = some (.int .u64 0) := cell_of_row _ g 2 _ _ _ hblk
    have c3 : w3.cell? ⟨g, 3, none⟩ = some (.int .i64 0) := cell_of_row _ g 3 _ _ _ hblk
    have c4 : w3.cell? ⟨g, 4, none⟩ = some (.int .i64 0) := cell_of_row _ g 4 _ _ _ hblk
    have c5 : w3.cell? ⟨g, 5, none⟩ = some (.int .i64 0) := cell_of_row _ g 5 _ _ _ hblk
    have c6 : w3.cell? ⟨g, 6, none⟩ = some (.int .i64 0) := cell_of_row _ g 6 _ _ _ hblk
    have f0 : ∀ j, w3.frozen? ⟨g, j, none⟩ = false := fun j => by simp [World.frozen?, hblk]
    have HBK : Hid (w3.heap[g]? = some (.cells #[.int .u8 0, .string ⟨#[]⟩, .int .u64 0, .int .i64 0, .int .i64 0, .int .i64 0, .int .i64 0] 46)) := hblk
    clear hblk
    go_wp2
    refine bodyPost_cell1 (g := g) (t := 46) rfl rfl rfl (set7_block _ _ _ _ _ _ _ _ _ _ _ _ _ _ _ _ _ _ HBK.out) Tryd.underlying46 rfl (by kernel_rfl) ?_
    exact ⟨rfl, by rw [← HG.out]; exact set7_below HZ3.out.2.1 (Nat.le_refl _)⟩

set_option maxRecDepth 100000 in
set_option maxHeartbeats 2000000 in
theorem xnum_stop (s : ByteArray) (p E F V TP : Nat) (x t : ByteArray) (hp : p < s.size) (h : s.size ≤ 1048576) (hE : p + digN ((bytesN s).drop p) = E) (hpE : p < E) (hEs : E ≤ s.size) (ht : s.extract p E = t)
    (hx : firstW ((bytesN s).drop E) sfxS = x) (hF : E + x.size = F) (hFs : F ≤ s.size) (hts : t.size ≤ 1048576) (hTP : topN (bytesN x) = TP) (hTP2 : TP = 255 ∨ TP = 4294967295 ∨ TP = 18446744073709551615) (hne : bytesN t ≠ []) (hd : ∀ c ∈ bytesN t, digitB c = true) (hV : valN (bytesN t) = V) (hle : V ≤ TP)
    (hlt : F < s.size) (c : Nat) (hc : (s[F]'hlt).toNat = c) (HC : Hid (wordB c = false)) (w : World) :
    Calls Tryd.prog 52 #[.string s, .int .i64 (p : Int)] w fun e w' => e = .returned (foundOk 2 V p F x) ∧ Below w.heap.size w w' := by
  have HE : Hid (p + digN ((bytesN s).drop p) = E) := hE
  have HX : Hid (firstW ((bytesN s).drop E) sfxS = x) := hx
  have HF : Hid (E + x.size = F) := hF
  have HT : Hid (topN (bytesN x) = TP) := hTP
  have HT2 : Hid (TP = 255 ∨ TP = 4294967295 ∨ TP = 18446744073709551615) := hTP2
  have HN : Hid (bytesN t ≠ []) := hne
  have HD : Hid (∀ c ∈ bytesN t, digitB c = true) := hd
  have HV : Hid (valN (bytesN t) = V) := hV
  have HL : Hid (V ≤ TP) := hle
  have hFi : (E : Int) + (x.size : Int) = (F : Int) := by omega
  have hFj : (p : Int) ≤ (E : Int) := by omega
  have hFn : (F : Int) < (s.size : Int) := by omega
  obtain ⟨u, hu⟩ : ∃ u, Hid (s.extract E s.size = u) := ⟨_, rfl⟩
  have hue : s.extract E s.size = u := hu.out
  have HUB : Hid (bytesN u = (bytesN s).drop E) := by unfold Hid; rw [← hue]; exact tail_bytes s E hEs
  have hus : u.size ≤ 1048576 := by rw [← hue, tail_size s E hEs]; omega
  clear hE hx hF hTP hTP2 hne hd hV hle
  obtain ⟨g, hg⟩ : ∃ g, g = w.heap.size := ⟨_, rfl⟩
  have HG : Hid (g = w.heap.size) := hg
  go_enter Tryd.func52, Tryd.ntmps52
  go_wp2_with fail
  refine (xpast_any s p p E [2] (w.heap.size + 1) 1 _ rfl (by omega) h rfl (by omega) (by rw [isB2]; exact HE.out) (kinds1s w _ 2 (by omega) 2 rfl _)).mono ?_
  rintro e wx ⟨rfl, rfl⟩
  obtain ⟨w1, hw1⟩ : ∃ w1, w1 = (w.alloc zeroF).alloc (.cells #[.int .u8 2] 60) := ⟨_, rfl⟩
  have HZ : Hid (ZK g w w1) := by unfold Hid; rw [hw1]; exact (ZK.new hg).alloc _
  unfold zeroF at hw1
  rw [← hw1, ← hg]
  clear hw1 hg
  go_wp2_with fail
  refine (xfirst_any u hus sfxS w1.heap.size 3 _ rfl (by omega) sfxS_size x (by rw [HUB.out]; exact HX.out) (sfxS_cells w1)).mono ?_
  rintro e wx ⟨rfl, rfl⟩
  obtain ⟨w2, hw2⟩ : ∃ w2, w2 = w1.alloc (.cells #[.string ⟨#[105, 56]⟩, .string ⟨#[105, 51, 50]⟩, .string ⟨#[105, 54, 52]⟩] 9) := ⟨_, rfl⟩
  have HZ2 : Hid (ZK g w w2) := by unfold Hid; rw [hw2]; exact HZ.out.alloc _
  rw [← hw2]
  clear hw2 HZ
  go_wp2_with fail
  go_region_with (first | (go_at_call 65; refine (xwidth_as x TP HT.out _).mono ?_; rintro e wx ⟨rfl, rfl⟩) | (go_at_call 64; refine (xparse_ok t hts V TP HT2.out HN.out HD.out HV.out HL.out _).mono ?_; rintro e w3 ⟨rfl, hb3⟩; have hz3 : ZK g w w3 := HZ2.out.on ((Below.refl _ _).drew.trans hb3); have HZ3 : Hid (ZK g w w3) := hz3; clear hz3 hb3))
  all_goals
    go_wp2_with fail
    refine (xis_any [1, 2] w3.heap.size 2 c _ rfl (by omega) false (by rw [isB12]; exact HC.out) (kinds2 w3 1 2 (by omega) (by omega) 1 2 rfl rfl _)).mono ?_
    rintro e wx ⟨rfl, rfl⟩
    obtain ⟨w4, hw4⟩ : ∃ w4, w4 = w3.alloc (.cells #[.int .u8 1, .int .u8 2] 60) := ⟨_, rfl⟩
    have HZ4 : Hid (ZK g w w4) := by unfold Hid; rw [hw4]; exact HZ3.out.alloc _
    rw [← hw4]
    clear hw4
    clear HZ3
    have HZ3 := HZ4
    have hblk := HZ3.out.1
    unfold zeroF at hblk
    have c0 : w4.cell? ⟨g, 0, none⟩ = some (.int .u8 0) := cell_of_row _ g 0 _ _ _ hblk
    have c1 : w4.cell? ⟨g, 1, none⟩ = some (.string ⟨#[]⟩) := cell_of_row _ g 1 _ _ _ hblk
    have c2 : w4.cell? ⟨g, 2, none⟩ = some (.int .u64 0) := cell_of_row _ g 2 _ _ _ hblk
    have c3 : w4.cell? ⟨g, 3, none⟩ = some (.int .i64 0) := cell_of_row _ g 3 _ _ _ hblk
    have c4 : w4.cell? ⟨g, 4, none⟩ = some (.int .i64 0) := cell_of_row _ g 4 _ _ _ hblk
    have c5 : w4.cell? ⟨g, 5, none⟩ = some (.int .i64 0) := cell_of_row _ g 5 _ _ _ hblk
    have c6 : w4.cell? ⟨g, 6, none⟩ = some (.int .i64 0) := cell_of_row _ g 6 _ _ _ hblk
    have f0 : ∀ j, w4.frozen? ⟨g, j, none⟩ = false := fun j => by simp [World.frozen?, hblk]
    have HBK : Hid (w4.heap[g]? = some (.cells #[.int .u8 0, .string ⟨#[]⟩, .int .u64 0, .int .i64 0, .int .i64 0, .int .i64 0, .int .i64 0] 46)) := hblk
    clear hblk
    go_wp2
    refine bodyPost_cell1 (g := g) (t := 46) rfl rfl rfl (set7_block _ _ _ _ _ _ _ _ _ _ _ _ _ _ _ _ _ _ HBK.out) Tryd.underlying46 rfl (by kernel_rfl) ?_
    exact ⟨rfl, by rw [← HG.out]; exact set7_below HZ3.out.2.1 (Nat.le_refl _)⟩

set_option maxRecDepth 100000 in
set_option maxHeartbeats 2000000 in
theorem xnum_more (s : ByteArray) (p E F V TP : Nat) (x t : ByteArray) (hp : p < s.size) (h : s.size ≤ 1048576) (hE : p + digN ((bytesN s).drop p) = E) (hpE : p < E) (hEs : E ≤ s.size) (ht : s.extract p E = t)
    (hx : firstW ((bytesN s).drop E) sfxS = x) (hF : E + x.size = F) (hFs : F ≤ s.size) (hts : t.size ≤ 1048576) (hTP : topN (bytesN x) = TP) (hTP2 : TP = 255 ∨ TP = 4294967295 ∨ TP = 18446744073709551615) (hne : bytesN t ≠ []) (hd : ∀ c ∈ bytesN t, digitB c = true) (hV : valN (bytesN t) = V) (hle : V ≤ TP)
    (hlt : F < s.size) (c : Nat) (hc : (s[F]'hlt).toNat = c) (HC : Hid (wordB c = true)) (w : World) :
    Calls Tryd.prog 52 #[.string s, .int .i64 (p : Int)] w fun e w' => e = .returned (foundNo p p 33) ∧ Below w.heap.size w w' := by
  have HE : Hid (p + digN ((bytesN s).drop p) = E) := hE
  have HX : Hid (firstW ((bytesN s).drop E) sfxS = x) := hx
  have HF : Hid (E + x.size = F) := hF
  have HT : Hid (topN (bytesN x) = TP) := hTP
  have HT2 : Hid (TP = 255 ∨ TP = 4294967295 ∨ TP = 18446744073709551615) := hTP2
  have HN : Hid (bytesN t ≠ []) := hne
  have HD : Hid (∀ c ∈ bytesN t, digitB c = true) := hd
  have HV : Hid (valN (bytesN t) = V) := hV
  have HL : Hid (V ≤ TP) := hle
  have hFi : (E : Int) + (x.size : Int) = (F : Int) := by omega
  have hFj : (p : Int) ≤ (E : Int) := by omega
  have hFn : (F : Int) < (s.size : Int) := by omega
  obtain ⟨u, hu⟩ : ∃ u, Hid (s.extract E s.size = u) := ⟨_, rfl⟩
  have hue : s.extract E s.size = u := hu.out
  have HUB : Hid (bytesN u = (bytesN s).drop E) := by unfold Hid; rw [← hue]; exact tail_bytes s E hEs
  have hus : u.size ≤ 1048576 := by rw [← hue, tail_size s E hEs]; omega
  clear hE hx hF hTP hTP2 hne hd hV hle
  obtain ⟨g, hg⟩ : ∃ g, g = w.heap.size := ⟨_, rfl⟩
  have HG : Hid (g = w.heap.size) := hg
  go_enter Tryd.func52, Tryd.ntmps52
  go_wp2_with fail
  refine (xpast_any s p p E [2] (w.heap.size + 1) 1 _ rfl (by omega) h rfl (by omega) (by rw [isB2]; exact HE.out) (kinds1s w _ 2 (by omega) 2 rfl _)).mono ?_
  rintro e wx ⟨rfl, rfl⟩
  obtain ⟨w1, hw1⟩ : ∃ w1, w1 = (w.alloc zeroF).alloc (.cells #[.int .u8 2] 60) := ⟨_, rfl⟩
  have HZ : Hid (ZK g w w1) := by unfold Hid; rw [hw1]; exact (ZK.new hg).alloc _
  unfold zeroF at hw1
  rw [← hw1, ← hg]
  clear hw1 hg
  go_wp2_with fail
  refine (xfirst_any u hus sfxS w1.heap.size 3 _ rfl (by omega) sfxS_size x (by rw [HUB.out]; exact HX.out) (sfxS_cells w1)).mono ?_
  rintro e wx ⟨rfl, rfl⟩
  obtain ⟨w2, hw2⟩ : ∃ w2, w2 = w1.alloc (.cells #[.string ⟨#[105, 56]⟩, .string ⟨#[105, 51, 50]⟩, .string ⟨#[105, 54, 52]⟩] 9) := ⟨_, rfl⟩
  have HZ2 : Hid (ZK g w w2) := by unfold Hid; rw [hw2]; exact HZ.out.alloc _
  rw [← hw2]
  clear hw2 HZ
  go_wp2_with fail
  go_region_with (first | (go_at_call 65; refine (xwidth_as x TP HT.out _).mono ?_; rintro e wx ⟨rfl, rfl⟩) | (go_at_call 64; refine (xparse_ok t hts V TP HT2.out HN.out HD.out HV.out HL.out _).mono ?_; rintro e w3 ⟨rfl, hb3⟩; have hz3 : ZK g w w3 := HZ2.out.on ((Below.refl _ _).drew.trans hb3); have HZ3 : Hid (ZK g w w3) := hz3; clear hz3 hb3))
  all_goals
    go_wp2_with fail
    refine (xis_any [1, 2] w3.heap.size 2 c _ rfl (by omega) true (by rw [isB12]; exact HC.out) (kinds2 w3 1 2 (by omega) (by omega) 1 2 rfl rfl _)).mono ?_
    rintro e wx ⟨rfl, rfl⟩
    obtain ⟨w4, hw4⟩ : ∃ w4, w4 = w3.alloc (.cells #[.int .u8 1, .int .u8 2] 60) := ⟨_, rfl⟩
    have HZ4 : Hid (ZK g w w4) := by unfold Hid; rw [hw4]; exact HZ3.out.alloc _
    rw [← hw4]
    clear hw4
    go_wp2_with fail
    refine (xfault_any p p 33 _).mono ?_
    rintro e w5 ⟨rfl, hb5⟩
    unfold foundNo
    have hz5 : ZK g w w5 := HZ4.out.on hb5
    have HZ3 : Hid (ZK g w w5) := hz5
    clear hz5 hb5
    have hblk := HZ3.out.1
    unfold zeroF at hblk
    have c0 : w5.cell? ⟨g, 0, none⟩ = some (.int .u8 0) := cell_of_row _ g 0 _ _ _ hblk
    have c1 : w5.cell? ⟨g, 1, none⟩ = some (.string ⟨#[]⟩) := cell_of_row _ g 1 _ _ _ hblk
    have c2 : w5.cell? ⟨g, 2, none⟩ = some (.int .u64 0) := cell_of_row _ g 2 _ _ _ hblk
    have c3 : w5.cell? ⟨g, 3, none⟩ = some (.int .i64 0) := cell_of_row _ g 3 _ _ _ hblk
    have c4 : w5.cell? ⟨g, 4, none⟩ = some (.int .i64 0) := cell_of_row _ g 4 _ _ _ hblk
    have c5 : w5.cell? ⟨g, 5, none⟩ = some (.int .i64 0) := cell_of_row _ g 5 _ _ _ hblk
    have c6 : w5.cell? ⟨g, 6, none⟩ = some (.int .i64 0) := cell_of_row _ g 6 _ _ _ hblk
    have f0 : ∀ j, w5.frozen? ⟨g, j, none⟩ = false := fun j => by simp [World.frozen?, hblk]
    have HBK : Hid (w5.heap[g]? = some (.cells #[.int .u8 0, .string ⟨#[]⟩, .int .u64 0, .int .i64 0, .int .i64 0, .int .i64 0, .int .i64 0] 46)) := hblk
    clear hblk
    go_wp2
    refine bodyPost_cell1 (g := g) (t := 46) rfl rfl rfl (set7_block _ _ _ _ _ _ _ _ _ _ _ _ _ _ _ _ _ _ HBK.out) Tryd.underlying46 rfl (by kernel_rfl) ?_
    exact ⟨rfl, by rw [← HG.out]; exact set7_below HZ3.out.2.1 (Nat.le_refl _)⟩

set_option maxRecDepth 100000 in
set_option maxHeartbeats 2000000 in
theorem xnum_big (s : ByteArray) (p E F V TP : Nat) (x t : ByteArray) (hp : p < s.size) (h : s.size ≤ 1048576) (hE : p + digN ((bytesN s).drop p) = E) (hpE : p < E) (hEs : E ≤ s.size) (ht : s.extract p E = t)
    (hx : firstW ((bytesN s).drop E) sfxS = x) (hF : E + x.size = F) (hFs : F ≤ s.size) (hts : t.size ≤ 1048576) (hTP : topN (bytesN x) = TP) (hTP2 : TP = 255 ∨ TP = 4294967295 ∨ TP = 18446744073709551615) (hne : bytesN t ≠ []) (hd : ∀ c ∈ bytesN t, digitB c = true) (hV : valN (bytesN t) = V) (hle : ¬ V ≤ TP)
     (w : World) (HLD : Hid (Laid w)) :
    Calls Tryd.prog 52 #[.string s, .int .i64 (p : Int)] w fun e w' => e = .returned (foundNo p p 33) ∧ Below w.heap.size w w' := by
  have HE : Hid (p + digN ((bytesN s).drop p) = E) := hE
  have HX : Hid (firstW ((bytesN s).drop E) sfxS = x) := hx
  have HF : Hid (E + x.size = F) := hF
  have HT : Hid (topN (bytesN x) = TP) := hTP
  have HT2 : Hid (TP = 255 ∨ TP = 4294967295 ∨ TP = 18446744073709551615) := hTP2
  have HN : Hid (bytesN t ≠ []) := hne
  have HD : Hid (∀ c ∈ bytesN t, digitB c = true) := hd
  have HV : Hid (valN (bytesN t) = V) := hV
  have HL : Hid (¬ V ≤ TP) := hle
  have hFi : (E : Int) + (x.size : Int) = (F : Int) := by omega
  have hFj : (p : Int) ≤ (E : Int) := by omega
  obtain ⟨u, hu⟩ : ∃ u, Hid (s.extract E s.size = u) := ⟨_, rfl⟩
  have hue : s.extract E s.size = u := hu.out
  have HUB : Hid (bytesN u = (bytesN s).drop E) := by unfold Hid; rw [← hue]; exact tail_bytes s E hEs
  have hus : u.size ≤ 1048576 := by rw [← hue, tail_size s E hEs]; omega
  clear hE hx hF hTP hTP2 hne hd hV hle
  obtain ⟨g, hg⟩ : ∃ g, g = w.heap.size := ⟨_, rfl⟩
  have HG : Hid (g = w.heap.size) := hg
  go_enter Tryd.func52, Tryd.ntmps52
  go_wp2_with fail
  refine (xpast_any s p p E [2] (w.heap.size + 1) 1 _ rfl (by omega) h rfl (by omega) (by rw [isB2]; exact HE.out) (kinds1s w _ 2 (by omega) 2 rfl _)).mono ?_
  rintro e wx ⟨rfl, rfl⟩
  obtain ⟨w1, hw1⟩ : ∃ w1, w1 = (w.alloc zeroF).alloc (.cells #[.int .u8 2] 60) := ⟨_, rfl⟩
  have HZ : Hid (ZK g w w1) := by unfold Hid; rw [hw1]; exact (ZK.new hg).alloc _
  unfold zeroF at hw1
  rw [← hw1, ← hg]
  clear hw1 hg
  go_wp2_with fail
  refine (xfirst_any u hus sfxS w1.heap.size 3 _ rfl (by omega) sfxS_size x (by rw [HUB.out]; exact HX.out) (sfxS_cells w1)).mono ?_
  rintro e wx ⟨rfl, rfl⟩
  obtain ⟨w2, hw2⟩ : ∃ w2, w2 = w1.alloc (.cells #[.string ⟨#[105, 56]⟩, .string ⟨#[105, 51, 50]⟩, .string ⟨#[105, 54, 52]⟩] 9) := ⟨_, rfl⟩
  have HZ2 : Hid (ZK g w w2) := by unfold Hid; rw [hw2]; exact HZ.out.alloc _
  rw [← hw2]
  clear hw2 HZ
  have HL2 : Hid (Laid w2.drew) := (HLD.out.below HZ2.out.2.1 (by rw [HG.out]; exact HLD.out.1)).on (Below.refl _ _).drew
  go_wp2_with fail
  go_region_with (first | (go_at_call 65; refine (xwidth_as x TP HT.out _).mono ?_; rintro e wx ⟨rfl, rfl⟩) | (go_at_call 64; refine (xparse_no t hts V TP HT2.out HN.out HD.out HV.out HL.out _ HL2.out).mono ?_; rintro e w3 ⟨NN, rfl, hb3⟩; have hz3 : ZK g w w3 := HZ2.out.on ((Below.refl _ _).drew.trans hb3); have HZ3 : Hid (ZK g w w3) := hz3; clear hz3 hb3))
  all_goals
    have HZ4 := HZ3
    go_wp2_with fail
    refine (xfault_any p p 33 _).mono ?_
    rintro e w5 ⟨rfl, hb5⟩
    unfold foundNo
    have hz5 : ZK g w w5 := HZ4.out.on hb5
    have HZ3 : Hid (ZK g w w5) := hz5
    clear hz5 hb5
    have hblk := HZ3.out.1
    unfold zeroF at hblk
    have c0 : w5.cell? ⟨g, 0, none⟩ = some (.int .u8 0) := cell_of_row _ g 0 _ _ _ hblk
    have c1 : w5.cell? ⟨g, 1, none⟩ = some (.string ⟨#[]⟩) := cell_of_row _ g 1 _ _ _ hblk
    have c2 : w5.cell? ⟨g, 2, none⟩ = some (.int .u64 0) := cell_of_row _ g 2 _ _ _ hblk
    have c3 : w5.cell? ⟨g, 3, none⟩ = some (.int .i64 0) := cell_of_row _ g 3 _ _ _ hblk
    have c4 : w5.cell? ⟨g, 4, none⟩ = some (.int .i64 0) := cell_of_row _ g 4 _ _ _ hblk
    have c5 : w5.cell? ⟨g, 5, none⟩ = some (.int .i64 0) := cell_of_row _ g 5 _ _ _ hblk
    have c6 : w5.cell? ⟨g, 6, none⟩ = some (.int .i64 0) := cell_of_row _ g 6 _ _ _ hblk
    have f0 : ∀ j, w5.frozen? ⟨g, j, none⟩ = false := fun j => by simp [World.frozen?, hblk]
    have HBK : Hid (w5.heap[g]? = some (.cells #[.int .u8 0, .string ⟨#[]⟩, .int .u64 0, .int .i64 0, .int .i64 0, .int .i64 0, .int .i64 0] 46)) := hblk
    clear hblk
    go_wp2
    refine bodyPost_cell1 (g := g) (t := 46) rfl rfl rfl (set7_block _ _ _ _ _ _ _ _ _ _ _ _ _ _ _ _ _ _ HBK.out) Tryd.underlying46 rfl (by kernel_rfl) ?_
    exact ⟨rfl, by rw [← HG.out]; exact set7_below HZ3.out.2.1 (Nat.le_refl _)⟩

end Go.Proofs.YteeoakbafbnkhaaDoor
