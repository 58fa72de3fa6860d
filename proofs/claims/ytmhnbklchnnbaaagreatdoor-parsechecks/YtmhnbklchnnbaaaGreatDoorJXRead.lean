import Derived.Test.YtmhnbklchnnbaaaGreatDoorJXText
import Derived.Test.YtmhnbklchnnbaaaGreatDoorJLow
set_option maxHeartbeats 2000000
set_option maxRecDepth 100000
namespace Go.Proofs.YtmhnbklchnnbaaaGreatDoor
open Go.RowKit
set_option linter.unusedVariables false
theorem sfxS_size (j : Nat) : (sfxS.getD j ⟨#[]⟩).size ≤ 10 := by
  match j with
  | 0 => decide
  | 1 => decide
  | 2 => decide
  | n + 3 => exact Nat.zero_le _
theorem sfxS_cells (w : World) (i : Nat) (h : i < 3) : (w.alloc (.cells #[.string ⟨#[105, 56]⟩, .string ⟨#[105, 51, 50]⟩, .string ⟨#[105, 54, 52]⟩] 9)).cell? ⟨w.heap.size, i, none⟩ = some (.string (sfxS.getD i ⟨#[]⟩)) := by
  match i, h with
  | 0, _ => exact cell_of_row _ _ 0 _ _ _ (heap_alloc_new _ _)
  | 1, _ => exact cell_of_row _ _ 1 _ _ _ (heap_alloc_new _ _)
  | 2, _ => exact cell_of_row _ _ 2 _ _ _ (heap_alloc_new _ _)
theorem kinds1s (w : World) (o : Obj) (k : Nat) (hk : k < 5) (v : Int) (hv : v = k) (t : TypeId) : KindsAt ((w.alloc o).alloc (.cells #[.int .u8 v] t)) (w.heap.size + 1) [k] := by
  have hs : (w.alloc o).heap.size = w.heap.size + 1 := Array.size_push _
  rw [← hs]; exact kinds1 (w.alloc o) k hk v hv t
def ZK (g : Nat) (w w1 : World) : Prop := w1.heap[g]? = some zeroF ∧ Below g w w1 ∧ g < w1.heap.size
theorem ZK.on {g : Nat} {w w1 w2 : World} (h : ZK g w w1) (hb : Below w1.heap.size w1 w2) : ZK g w w2 :=
  ⟨by rw [hb.block g h.2.2]; exact h.1, h.2.1.trans (hb.mono (Nat.le_of_lt h.2.2)), Nat.lt_of_lt_of_le h.2.2 hb.size⟩
theorem ZK.alloc {g : Nat} {w w1 : World} (h : ZK g w w1) (o : Obj) : ZK g w (w1.alloc o) := h.on ((Below.refl _ _).alloc (Nat.le_refl _) _)
theorem ZK.new {g : Nat} {w : World} (hg : g = w.heap.size) : ZK g w (w.alloc zeroF) := by
  have hs : (w.alloc zeroF).heap.size = w.heap.size + 1 := Array.size_push _
  exact ⟨by rw [hg]; exact heap_alloc_new w _, (Below.refl g w).alloc (by omega) _, by omega⟩
theorem xnum_end (s : ByteArray) (p E F V TP : Nat) (x t : ByteArray) (hp : p < s.size) (h : s.size ≤ 1048576) (hE : p + digN ((bytesN s).drop p) = E) (hpE : p < E) (hEs : E ≤ s.size) (ht : s.extract p E = t)
    (hx : firstW ((bytesN s).drop E) sfxS = x) (hF : E + x.size = F) (hFs : F ≤ s.size) (hts : t.size ≤ 1048576) (hTP : topN (bytesN x) = TP) (hTP2 : TP = 255 ∨ TP = 4294967295 ∨ TP = 18446744073709551615) (hne : bytesN t ≠ []) (hd : ∀ c ∈ bytesN t, digitB c = true) (hV : valN (bytesN t) = V) (hle : V ≤ TP)
    (hend : F = s.size) (w : World) :
    Calls Tryz.prog 91 #[.string s, .int .i64 (p : Int)] w fun e w' => e = .returned (foundOk 2 V p F x) ∧ Below w.heap.size w w' := by
  have HE : Hid (p + digN ((bytesN s).drop p) = E) := hE
  have HX : Hid (firstW ((bytesN s).drop E) sfxS = x) := hx
  have HF : Hid (E + x.size = F) := hF
  have HT : Hid (topN (bytesN x) = TP) := hTP
  have HT2 : Hid (TP = 255 ∨ TP = 4294967295 ∨ TP = 18446744073709551615) := hTP2
  have HN : Hid (bytesN t ≠ []) := hne
  have HD : Hid (∀ c ∈ bytesN t, digitB c = true) := hd
  have HV : Hid (valN (bytesN t) = V) := hV
  have HL : Hid (V ≤ TP) := hle
  have hFi : (E : Int) + (x.size : Int) = (F : Int) := by omega
  have hFj : (p : Int) ≤ (E : Int) := by omega
  have hFn : ¬ (F : Int) < (s.size : Int) := by omega
  clear hend
  obtain ⟨u, hu⟩ : ∃ u, Hid (s.extract E s.size = u) := ⟨_, rfl⟩
  have hue : s.extract E s.size = u := hu.out
  have HUB : Hid (bytesN u = (bytesN s).drop E) := by unfold Hid; rw [← hue]; exact tail_bytes s E hEs
  have hus : u.size ≤ 1048576 := by rw [← hue, tail_size s E hEs]; omega
  clear hE hx hF hTP hTP2 hne hd hV hle
  obtain ⟨g, hg⟩ : ∃ g, g = w.heap.size := ⟨_, rfl⟩
  have HG : Hid (g = w.heap.size) := hg
  go_enter Tryz.func91, Tryz.ntmps91
  go_wp2_with fail
  refine (xpast_any s p p E [2] (w.heap.size + 1) 1 _ rfl (by omega) h rfl (by omega) (by rw [isB2]; exact HE.out) (kinds1s w _ 2 (by omega) 2 rfl _)).mono ?_
  rintro e wx ⟨rfl, rfl⟩
  obtain ⟨w1, hw1⟩ : ∃ w1, w1 = (w.alloc zeroF).alloc (.cells #[.int .u8 2] 71) := ⟨_, rfl⟩
  have HZ : Hid (ZK g w w1) := by unfold Hid; rw [hw1]; exact (ZK.new hg).alloc _
  unfold zeroF at hw1
  rw [← hw1, ← hg]
  clear hw1 hg
  go_wp2_with fail
  refine (xfirst_any u hus sfxS w1.heap.size 3 _ rfl (by omega) sfxS_size x (by rw [HUB.out]; exact HX.out) (sfxS_cells w1)).mono ?_
  rintro e wx ⟨rfl, rfl⟩
  obtain ⟨w2, hw2⟩ : ∃ w2, w2 = w1.alloc (.cells #[.string ⟨#[105, 56]⟩, .string ⟨#[105, 51, 50]⟩, .string ⟨#[105, 54, 52]⟩] 9) := ⟨_, rfl⟩
  have HZ2 : Hid (ZK g w w2) := by unfold Hid; rw [hw2]; exact HZ.out.alloc _
  rw [← hw2]
  clear hw2 HZ
  go_wp2_with fail
  go_region_with (first | (go_at_call 105; refine (xwidth_as x TP HT.out _).mono ?_; rintro e wx ⟨rfl, rfl⟩) | (go_at_call 104; refine (xparse_ok t hts V TP HT2.out HN.out HD.out HV.out HL.out _).mono ?_; rintro e w3 ⟨rfl, hb3⟩; have hz3 : ZK g w w3 := HZ2.out.on ((Below.refl _ _).drew.trans hb3); have HZ3 : Hid (ZK g w w3) := hz3; clear hz3 hb3))
  all_goals
    have hblk := HZ3.out.1
    unfold zeroF at hblk
    have c0 : w3.cell? ⟨g, 0, none⟩ = some (.int .u8 0) := cell_of_row _ g 0 _ _ _ hblk
    have c1 : w3.cell? ⟨g, 1, none⟩ = some (.string ⟨#[]⟩) := cell_of_row _ g 1 _ _ _ hblk
    have c2 : w3.cell? ⟨g, 2, none⟩ = some (.int .u64 0) := cell_of_row _ g 2 _ _ _ hblk
    have c3 : w3.cell? ⟨g, 3, none⟩ = some (.int .i64 0) := cell_of_row _ g 3 _ _ _ hblk
    have c4 : w3.cell? ⟨g, 4, none⟩ = some (.int .i64 0) := cell_of_row _ g 4 _ _ _ hblk
    have c5 : w3.cell? ⟨g, 5, none⟩ = some (.int .i64 0) := cell_of_row _ g 5 _ _ _ hblk
    have c6 : w3.cell? ⟨g, 6, none⟩ = some (.int .i64 0) := cell_of_row _ g 6 _ _ _ hblk
    have f0 : ∀ j, w3.frozen? ⟨g, j, none⟩ = false := fun j => by simp [World.frozen?, hblk]
    have HBK : Hid (w3.heap[g]? = some (.cells #[.int .u8 0, .string ⟨#[]⟩, .int .u64 0, .int .i64 0, .int .i64 0, .int .i64 0, .int .i64 0] 79)) := hblk
    clear hblk
    go_wp2
    refine bodyPost_cell1 (g := g) (t := 79) rfl rfl rfl (set7_block _ _ _ _ _ _ _ _ _ _ _ _ _ _ _ _ _ _ HBK.out) Tryz.underlying79 rfl (by kernel_rfl) ?_
    exact ⟨rfl, by rw [← HG.out]; exact set7_below HZ3.out.2.1 (Nat.le_refl _)⟩
theorem xnum_stop (s : ByteArray) (p E F V TP : Nat) (x t : ByteArray) (hp : p < s.size) (h : s.size ≤ 1048576) (hE : p + digN ((bytesN s).drop p) = E) (hpE : p < E) (hEs : E ≤ s.size) (ht : s.extract p E = t)
    (hx : firstW ((bytesN s).drop E) sfxS = x) (hF : E + x.size = F) (hFs : F ≤ s.size) (hts : t.size ≤ 1048576) (hTP : topN (bytesN x) = TP) (hTP2 : TP = 255 ∨ TP = 4294967295 ∨ TP = 18446744073709551615) (hne : bytesN t ≠ []) (hd : ∀ c ∈ bytesN t, digitB c = true) (hV : valN (bytesN t) = V) (hle : V ≤ TP)
    (hlt : F < s.size) (c : Nat) (hc : (s[F]'hlt).toNat = c) (HC : Hid (wordB c = false)) (w : World) :
    Calls Tryz.prog 91 #[.string s, .int .i64 (p : Int)] w fun e w' => e = .returned (foundOk 2 V p F x) ∧ Below w.heap.size w w' := by
  have HE : Hid (p + digN ((bytesN s).drop p) = E) := hE
  have HX : Hid (firstW ((bytesN s).drop E) sfxS = x) := hx
  have HF : Hid (E + x.size = F) := hF
  have HT : Hid (topN (bytesN x) = TP) := hTP
  have HT2 : Hid (TP = 255 ∨ TP = 4294967295 ∨ TP = 18446744073709551615) := hTP2
  have HN : Hid (bytesN t ≠ []) := hne
  have HD : Hid (∀ c ∈ bytesN t, digitB c = true) := hd
  have HV : Hid (valN (bytesN t) = V) := hV
  have HL : Hid (V ≤ TP) := hle
  have hFi : (E : Int) + (x.size : Int) = (F : Int) := by omega
  have hFj : (p : Int) ≤ (E : Int) := by omega
  have hFn : (F : Int) < (s.size : Int) := by omega
  obtain ⟨u, hu⟩ : ∃ u, Hid (s.extract E s.size = u) := ⟨_, rfl⟩
  have hue : s.extract E s.size = u := hu.out
  have HUB : Hid (bytesN u = (bytesN s).drop E) := by unfold Hid; rw [← hue]; exact tail_bytes s E hEs
  have hus : u.size ≤ 1048576 := by rw [← hue, tail_size s E hEs]; omega
  clear hE hx hF hTP hTP2 hne hd hV hle
  obtain ⟨g, hg⟩ : ∃ g, g = w.heap.size := ⟨_, rfl⟩
  have HG : Hid (g = w.heap.size) := hg
  go_enter Tryz.func91, Tryz.ntmps91
  go_wp2_with fail
  refine (xpast_any s p p E [2] (w.heap.size + 1) 1 _ rfl (by omega) h rfl (by omega) (by rw [isB2]; exact HE.out) (kinds1s w _ 2 (by omega) 2 rfl _)).mono ?_
  rintro e wx ⟨rfl, rfl⟩
  obtain ⟨w1, hw1⟩ : ∃ w1, w1 = (w.alloc zeroF).alloc (.cells #[.int .u8 2] 71) := ⟨_, rfl⟩
  have HZ : Hid (ZK g w w1) := by unfold Hid; rw [hw1]; exact (ZK.new hg).alloc _
  unfold zeroF at hw1
  rw [← hw1, ← hg]
  clear hw1 hg
  go_wp2_with fail
  refine (xfirst_any u hus sfxS w1.heap.size 3 _ rfl (by omega) sfxS_size x (by rw [HUB.out]; exact HX.out) (sfxS_cells w1)).mono ?_
  rintro e wx ⟨rfl, rfl⟩
  obtain ⟨w2, hw2⟩ : ∃ w2, w2 = w1.alloc (.cells #[.string ⟨#[105, 56]⟩, .string ⟨#[105, 51, 50]⟩, .string ⟨#[105, 54, 52]⟩] 9) := ⟨_, rfl⟩
  have HZ2 : Hid (ZK g w w2) := by unfold Hid; rw [hw2]; exact HZ.out.alloc _
  rw [← hw2]
  clear hw2 HZ
  go_wp2_with fail
  go_region_with (first | (go_at_call 105; refine (xwidth_as x TP HT.out _).mono ?_; rintro e wx ⟨rfl, rfl⟩) | (go_at_call 104; refine (xparse_ok t hts V TP HT2.out HN.out HD.out HV.out HL.out _).mono ?_; rintro e w3 ⟨rfl, hb3⟩; have hz3 : ZK g w w3 := HZ2.out.on ((Below.refl _ _).drew.trans hb3); have HZ3 : Hid (ZK g w w3) := hz3; clear hz3 hb3))
  all_goals
    go_wp2_with fail
    refine (xis_any [1, 2] w3.heap.size 2 c _ rfl (by omega) false (by rw [isB12]; exact HC.out) (kinds2 w3 1 2 (by omega) (by omega) 1 2 rfl rfl _)).mono ?_
    rintro e wx ⟨rfl, rfl⟩
    obtain ⟨w4, hw4⟩ : ∃ w4, w4 = w3.alloc (.cells #[.int .u8 1, .int .u8 2] 71) := ⟨_, rfl⟩
    have HZ4 : Hid (ZK g w w4) := by unfold Hid; rw [hw4]; exact HZ3.out.alloc _
    rw [← hw4]
    clear hw4
    clear HZ3
    have HZ3 := HZ4
    have hblk := HZ3.out.1
    unfold zeroF at hblk
    have c0 : w4.cell? ⟨g, 0, none⟩ = some (.int .u8 0) := cell_of_row _ g 0 _ _ _ hblk
    have c1 : w4.cell? ⟨g, 1, none⟩ = some (.string ⟨#[]⟩) := cell_of_row _ g 1 _ _ _ hblk
    have c2 : w4.cell? ⟨g, 2, none⟩ = some (.int .u64 0) := cell_of_row _ g 2 _ _ _ hblk
    have c3 : w4.cell? ⟨g, 3, none⟩ = some (.int .i64 0) := cell_of_row _ g 3 _ _ _ hblk
    have c4 : w4.cell? ⟨g, 4, none⟩ = some (.int .i64 0) := cell_of_row _ g 4 _ _ _ hblk
    have c5 : w4.cell? ⟨g, 5, none⟩ = some (.int .i64 0) := cell_of_row _ g 5 _ _ _ hblk
    have c6 : w4.cell? ⟨g, 6, none⟩ = some (.int .i64 0) := cell_of_row _ g 6 _ _ _ hblk
    have f0 : ∀ j, w4.frozen? ⟨g, j, none⟩ = false := fun j => by simp [World.frozen?, hblk]
    have HBK : Hid (w4.heap[g]? = some (.cells #[.int .u8 0, .string ⟨#[]⟩, .int .u64 0, .int .i64 0, .int .i64 0, .int .i64 0, .int .i64 0] 79)) := hblk
    clear hblk
    go_wp2
    refine bodyPost_cell1 (g := g) (t := 79) rfl rfl rfl (set7_block _ _ _ _ _ _ _ _ _ _ _ _ _ _ _ _ _ _ HBK.out) Tryz.underlying79 rfl (by kernel_rfl) ?_
    exact ⟨rfl, by rw [← HG.out]; exact set7_below HZ3.out.2.1 (Nat.le_refl _)⟩
theorem xnum_more (s : ByteArray) (p E F V TP : Nat) (x t : ByteArray) (hp : p < s.size) (h : s.size ≤ 1048576) (hE : p + digN ((bytesN s).drop p) = E) (hpE : p < E) (hEs : E ≤ s.size) (ht : s.extract p E = t)
    (hx : firstW ((bytesN s).drop E) sfxS = x) (hF : E + x.size = F) (hFs : F ≤ s.size) (hts : t.size ≤ 1048576) (hTP : topN (bytesN x) = TP) (hTP2 : TP = 255 ∨ TP = 4294967295 ∨ TP = 18446744073709551615) (hne : bytesN t ≠ []) (hd : ∀ c ∈ bytesN t, digitB c = true) (hV : valN (bytesN t) = V) (hle : V ≤ TP)
    (hlt : F < s.size) (c : Nat) (hc : (s[F]'hlt).toNat = c) (HC : Hid (wordB c = true)) (w : World) :
    Calls Tryz.prog 91 #[.string s, .int .i64 (p : Int)] w fun e w' => e = .returned (foundNo p p 33) ∧ Below w.heap.size w w' := by
  have HE : Hid (p + digN ((bytesN s).drop p) = E) := hE
  have HX : Hid (firstW ((bytesN s).drop E) sfxS = x) := hx
  have HF : Hid (E + x.size = F) := hF
  have HT : Hid (topN (bytesN x) = TP) := hTP
  have HT2 : Hid (TP = 255 ∨ TP = 4294967295 ∨ TP = 18446744073709551615) := hTP2
  have HN : Hid (bytesN t ≠ []) := hne
  have HD : Hid (∀ c ∈ bytesN t, digitB c = true) := hd
  have HV : Hid (valN (bytesN t) = V) := hV
  have HL : Hid (V ≤ TP) := hle
  have hFi : (E : Int) + (x.size : Int) = (F : Int) := by omega
  have hFj : (p : Int) ≤ (E : Int) := by omega
  have hFn : (F : Int) < (s.size : Int) := by omega
  obtain ⟨u, hu⟩ : ∃ u, Hid (s.extract E s.size = u) := ⟨_, rfl⟩
  have hue : s.extract E s.size = u := hu.out
  have HUB : Hid (bytesN u = (bytesN s).drop E) := by unfold Hid; rw [← hue]; exact tail_bytes s E hEs
  have hus : u.size ≤ 1048576 := by rw [← hue, tail_size s E hEs]; omega
  clear hE hx hF hTP hTP2 hne hd hV hle
  obtain ⟨g, hg⟩ : ∃ g, g = w.heap.size := ⟨_, rfl⟩
  have HG : Hid (g = w.heap.size) := hg
  go_enter Tryz.func91, Tryz.ntmps91
  go_wp2_with fail
  refine (xpast_any s p p E [2] (w.heap.size + 1) 1 _ rfl (by omega) h rfl (by omega) (by rw [isB2]; exact HE.out) (kinds1s w _ 2 (by omega) 2 rfl _)).mono ?_
  rintro e wx ⟨rfl, rfl⟩
  obtain ⟨w1, hw1⟩ : ∃ w1, w1 = (w.alloc zeroF).alloc (.cells #[.int .u8 2] 71) := ⟨_, rfl⟩
  have HZ : Hid (ZK g w w1) := by unfold Hid; rw [hw1]; exact (ZK.new hg).alloc _
  unfold zeroF at hw1
  rw [← hw1, ← hg]
  clear hw1 hg
  go_wp2_with fail
  refine (xfirst_any u hus sfxS w1.heap.size 3 _ rfl (by omega) sfxS_size x (by rw [HUB.out]; exact HX.out) (sfxS_cells w1)).mono ?_
  rintro e wx ⟨rfl, rfl⟩
  obtain ⟨w2, hw2⟩ : ∃ w2, w2 = w1.alloc (.cells #[.string ⟨#[105, 56]⟩, .string ⟨#[105, 51, 50]⟩, .string ⟨#[105, 54, 52]⟩] 9) := ⟨_, rfl⟩
  have HZ2 : Hid (ZK g w w2) := by unfold Hid; rw [hw2]; exact HZ.out.alloc _
  rw [← hw2]
  clear hw2 HZ
  go_wp2_with fail
  go_region_with (first | (go_at_call 105; refine (xwidth_as x TP HT.out _).mono ?_; rintro e wx ⟨rfl, rfl⟩) | (go_at_call 104; refine (xparse_ok t hts V TP HT2.out HN.out HD.out HV.out HL.out _).mono ?_; rintro e w3 ⟨rfl, hb3⟩; have hz3 : ZK g w w3 := HZ2.out.on ((Below.refl _ _).drew.trans hb3); have HZ3 : Hid (ZK g w w3) := hz3; clear hz3 hb3))
  all_goals
    go_wp2_with fail
    refine (xis_any [1, 2] w3.heap.size 2 c _ rfl (by omega) true (by rw [isB12]; exact HC.out) (kinds2 w3 1 2 (by omega) (by omega) 1 2 rfl rfl _)).mono ?_
    rintro e wx ⟨rfl, rfl⟩
    obtain ⟨w4, hw4⟩ : ∃ w4, w4 = w3.alloc (.cells #[.int .u8 1, .int .u8 2] 71) := ⟨_, rfl⟩
    have HZ4 : Hid (ZK g w w4) := by unfold Hid; rw [hw4]; exact HZ3.out.alloc _
    rw [← hw4]
    clear hw4
    go_wp2_with fail
    refine (xfault_any p p 33 _).mono ?_
    rintro e w5 ⟨rfl, hb5⟩
    unfold foundNo
    have hz5 : ZK g w w5 := HZ4.out.on hb5
    have HZ3 : Hid (ZK g w w5) := hz5
    clear hz5 hb5
    have hblk := HZ3.out.1
    unfold zeroF at hblk
    have c0 : w5.cell? ⟨g, 0, none⟩ = some (.int .u8 0) := cell_of_row _ g 0 _ _ _ hblk
    have c1 : w5.cell? ⟨g, 1, none⟩ = some (.string ⟨#[]⟩) := cell_of_row _ g 1 _ _ _ hblk
    have c2 : w5.cell? ⟨g, 2, none⟩ = some (.int .u64 0) := cell_of_row _ g 2 _ _ _ hblk
    have c3 : w5.cell? ⟨g, 3, none⟩ = some (.int .i64 0) := cell_of_row _ g 3 _ _ _ hblk
    have c4 : w5.cell? ⟨g, 4, none⟩ = some (.int .i64 0) := cell_of_row _ g 4 _ _ _ hblk
    have c5 : w5.cell? ⟨g, 5, none⟩ = some (.int .i64 0) := cell_of_row _ g 5 _ _ _ hblk
    have c6 : w5.cell? ⟨g, 6, none⟩ = some (.int .i64 0) := cell_of_row _ g 6 _ _ _ hblk
    have f0 : ∀ j, w5.frozen? ⟨g, j, none⟩ = false := fun j => by simp [World.frozen?, hblk]
    have HBK : Hid (w5.heap[g]? = some (.cells #[.int .u8 0, .string ⟨#[]⟩, .int .u64 0, .int .i64 0, .int .i64 0, .int .i64 0, .int .i64 0] 79)) := hblk
    clear hblk
    go_wp2
    refine bodyPost_cell1 (g := g) (t := 79) rfl rfl rfl (set7_block _ _ _ _ _ _ _ _ _ _ _ _ _ _ _ _ _ _ HBK.out) Tryz.underlying79 rfl (by kernel_rfl) ?_
    exact ⟨rfl, by rw [← HG.out]; exact set7_below HZ3.out.2.1 (Nat.le_refl _)⟩
theorem xnum_big (s : ByteArray) (p E F V TP : Nat) (x t : ByteArray) (hp : p < s.size) (h : s.size ≤ 1048576) (hE : p + digN ((bytesN s).drop p) = E) (hpE : p < E) (hEs : E ≤ s.size) (ht : s.extract p E = t)
    (hx : firstW ((bytesN s).drop E) sfxS = x) (hF : E + x.size = F) (hFs : F ≤ s.size) (hts : t.size ≤ 1048576) (hTP : topN (bytesN x) = TP) (hTP2 : TP = 255 ∨ TP = 4294967295 ∨ TP = 18446744073709551615) (hne : bytesN t ≠ []) (hd : ∀ c ∈ bytesN t, digitB c = true) (hV : valN (bytesN t) = V) (hle : ¬ V ≤ TP)
     (w : World) (HLD : Hid (Laid w)) :
    Calls Tryz.prog 91 #[.string s, .int .i64 (p : Int)] w fun e w' => e = .returned (foundNo p p 33) ∧ Below w.heap.size w w' := by
  have HE : Hid (p + digN ((bytesN s).drop p) = E) := hE
  have HX : Hid (firstW ((bytesN s).drop E) sfxS = x) := hx
  have HF : Hid (E + x.size = F) := hF
  have HT : Hid (topN (bytesN x) = TP) := hTP
  have HT2 : Hid (TP = 255 ∨ TP = 4294967295 ∨ TP = 18446744073709551615) := hTP2
  have HN : Hid (bytesN t ≠ []) := hne
  have HD : Hid (∀ c ∈ bytesN t, digitB c = true) := hd
  have HV : Hid (valN (bytesN t) = V) := hV
  have HL : Hid (¬ V ≤ TP) := hle
  have hFi : (E : Int) + (x.size : Int) = (F : Int) := by omega
  have hFj : (p : Int) ≤ (E : Int) := by omega
  obtain ⟨u, hu⟩ : ∃ u, Hid (s.extract E s.size = u) := ⟨_, rfl⟩
  have hue : s.extract E s.size = u := hu.out
  have HUB : Hid (bytesN u = (bytesN s).drop E) := by unfold Hid; rw [← hue]; exact tail_bytes s E hEs
  have hus : u.size ≤ 1048576 := by rw [← hue, tail_size s E hEs]; omega
  clear hE hx hF hTP hTP2 hne hd hV hle
  obtain ⟨g, hg⟩ : ∃ g, g = w.heap.size := ⟨_, rfl⟩
  have HG : Hid (g = w.heap.size) := hg
  go_enter Tryz.func91, Tryz.ntmps91
  go_wp2_with fail
  refine (xpast_any s p p E [2] (w.heap.size + 1) 1 _ rfl (by omega) h rfl (by omega) (by rw [isB2]; exact HE.out) (kinds1s w _ 2 (by omega) 2 rfl _)).mono ?_
  rintro e wx ⟨rfl, rfl⟩
  obtain ⟨w1, hw1⟩ : ∃ w1, w1 = (w.alloc zeroF).alloc (.cells #[.int .u8 2] 71) := ⟨_, rfl⟩
  have HZ : Hid (ZK g w w1) := by unfold Hid; rw [hw1]; exact (ZK.new hg).alloc _
  unfold zeroF at hw1
  rw [← hw1, ← hg]
  clear hw1 hg
  go_wp2_with fail
  refine (xfirst_any u hus sfxS w1.heap.size 3 _ rfl (by omega) sfxS_size x (by rw [HUB.out]; exact HX.out) (sfxS_cells w1)).mono ?_
  rintro e wx ⟨rfl, rfl⟩
  obtain ⟨w2, hw2⟩ : ∃ w2, w2 = w1.alloc (.cells #[.string ⟨#[105, 56]⟩, .string ⟨#[105, 51, 50]⟩, .string ⟨#[105, 54, 52]⟩] 9) := ⟨_, rfl⟩
  have HZ2 : Hid (ZK g w w2) := by unfold Hid; rw [hw2]; exact HZ.out.alloc _
  rw [← hw2]
  clear hw2 HZ
  have HL2 : Hid (Laid w2.drew) := (HLD.out.below HZ2.out.2.1 (by rw [HG.out]; exact HLD.out.1)).on (Below.refl _ _).drew
  go_wp2_with fail
  go_region_with (first | (go_at_call 105; refine (xwidth_as x TP HT.out _).mono ?_; rintro e wx ⟨rfl, rfl⟩) | (go_at_call 104; refine (xparse_no t hts V TP HT2.out HN.out HD.out HV.out HL.out _ HL2.out).mono ?_; rintro e w3 ⟨NN, rfl, hb3⟩; have hz3 : ZK g w w3 := HZ2.out.on ((Below.refl _ _).drew.trans hb3); have HZ3 : Hid (ZK g w w3) := hz3; clear hz3 hb3))
  all_goals
    have HZ4 := HZ3
    go_wp2_with fail
    refine (xfault_any p p 33 _).mono ?_
    rintro e w5 ⟨rfl, hb5⟩
    unfold foundNo
    have hz5 : ZK g w w5 := HZ4.out.on hb5
    have HZ3 : Hid (ZK g w w5) := hz5
    clear hz5 hb5
    have hblk := HZ3.out.1
    unfold zeroF at hblk
    have c0 : w5.cell? ⟨g, 0, none⟩ = some (.int .u8 0) := cell_of_row _ g 0 _ _ _ hblk
    have c1 : w5.cell? ⟨g, 1, none⟩ = some (.string ⟨#[]⟩) := cell_of_row _ g 1 _ _ _ hblk
    have c2 : w5.cell? ⟨g, 2, none⟩ = some (.int .u64 0) := cell_of_row _ g 2 _ _ _ hblk
    have c3 : w5.cell? ⟨g, 3, none⟩ = some (.int .i64 0) := cell_of_row _ g 3 _ _ _ hblk
    have c4 : w5.cell? ⟨g, 4, none⟩ = some (.int .i64 0) := cell_of_row _ g 4 _ _ _ hblk
    have c5 : w5.cell? ⟨g, 5, none⟩ = some (.int .i64 0) := cell_of_row _ g 5 _ _ _ hblk
    have c6 : w5.cell? ⟨g, 6, none⟩ = some (.int .i64 0) := cell_of_row _ g 6 _ _ _ hblk
    have f0 : ∀ j, w5.frozen? ⟨g, j, none⟩ = false := fun j => by simp [World.frozen?, hblk]
    have HBK : Hid (w5.heap[g]? = some (.cells #[.int .u8 0, .string ⟨#[]⟩, .int .u64 0, .int .i64 0, .int .i64 0, .int .i64 0, .int .i64 0] 79)) := hblk
    clear hblk
    go_wp2
    refine bodyPost_cell1 (g := g) (t := 79) rfl rfl rfl (set7_block _ _ _ _ _ _ _ _ _ _ _ _ _ _ _ _ _ _ HBK.out) Tryz.underlying79 rfl (by kernel_rfl) ?_
    exact ⟨rfl, by rw [← HG.out]; exact set7_below HZ3.out.2.1 (Nat.le_refl _)⟩
theorem take_all (q : Nat → Bool) : ∀ l : List Nat, ∀ c ∈ l.takeWhile q, q c = true
  | [], c, h => by simp at h
  | d :: r, c, h => by
    by_cases hd : q d = true
    · rw [List.takeWhile_cons, if_pos hd] at h
      rcases List.mem_cons.1 h with rfl | h'
      · exact hd
      · exact take_all q r c h'
    · rw [List.takeWhile_cons, if_neg hd] at h; simp at h
theorem digit_letter (c : Nat) (h : digitB c = true) : letterB c = false := by
  simp [digitB] at h
  simp [letterB]; omega
theorem top_cases (l : List Nat) : topN l = 255 ∨ topN l = 4294967295 ∨ topN l = 18446744073709551615 := by
  unfold topN; split
  · exact .inl rfl
  · split
    · exact .inr (.inl rfl)
    · exact .inr (.inr rfl)
theorem first_le (l : List Nat) : (firstW l sfxS).size ≤ l.length := by
  rcases first_cases l with ⟨e, hb⟩ | ⟨e, hb⟩ | ⟨e, hb⟩ | ⟨e, _⟩
  · rw [e]; have := congrArg List.length (has_split hb); rw [List.length_append] at this; show 2 ≤ _; simp at this; omega
  · rw [e]; have := congrArg List.length (has_split hb); rw [List.length_append] at this; show 3 ≤ _; simp at this; omega
  · rw [e]; have := congrArg List.length (has_split hb); rw [List.length_append] at this; show 3 ≤ _; simp at this; omega
  · rw [e]; exact Nat.zero_le _
theorem xnumber_as (s : ByteArray) (y : Int) (p c : Nat) (hy : y = p) (hp : p < s.size) (h : s.size ≤ 1048576) (hc : (s[p]'hp).toNat = c) (hd : digitB c = true) (w : World) (hL : Laid w) :
    Calls Tryz.prog 91 #[.string s, .int .i64 y] w fun e w' => e = .returned (foundV p (oneN ((bytesN s).drop p))) ∧ Below w.heap.size w w' := by
  subst hy
  have hdrop := bytesN_drop s p hp
  rw [hc] at hdrop
  obtain ⟨l, hl⟩ : ∃ l, (bytesN s).drop p = l := ⟨_, rfl⟩
  have hll : l.length = s.size - p := by rw [← hl, List.length_drop, bytesN_length]
  have hone := one_num l c _ (hl.symm.trans hdrop) (digit_letter c hd) hd
  obtain ⟨D, hD⟩ : ∃ D, digN l = D := ⟨_, rfl⟩
  have hD1 : 1 ≤ D := by rw [← hD, ← hl, hdrop, digN_cons _ _ hd]; omega
  have hD2 : D ≤ l.length := by rw [← hD]; exact dig_le l
  obtain ⟨t, ht⟩ : ∃ t, s.extract p (p + D) = t := ⟨_, rfl⟩
  have htb : bytesN t = l.takeWhile digitB := by
    rw [← ht, bytesN_extract, Nat.add_sub_cancel_left, hl, ← hD]; exact takeWhile_take digitB l
  have hlen : (l.takeWhile digitB).length = D := hD
  have hts : t.size = D := by rw [← bytesN_length, htb, hlen]
  have hdE : (bytesN s).drop (p + D) = l.drop D := by rw [← hl, List.drop_drop]
  obtain ⟨x, hx⟩ : ∃ x, firstW (l.drop D) sfxS = x := ⟨_, rfl⟩
  have hxs : x.size ≤ l.length - D := by rw [← hx]; have := first_le (l.drop D); rwa [List.length_drop] at this
  have hne : bytesN t ≠ [] := by intro e; rw [htb] at e; rw [e] at hlen; simp at hlen; omega
  have hdg : ∀ c ∈ bytesN t, digitB c = true := by rw [htb]; exact take_all digitB l
  obtain ⟨V, hV⟩ : ∃ V, valN (bytesN t) = V := ⟨_, rfl⟩
  have hV' : valN (l.takeWhile digitB) = V := by rw [← htb]; exact hV
  obtain ⟨TP, hTP⟩ : ∃ TP, topN (bytesN x) = TP := ⟨_, rfl⟩
  have hTP2 : TP = 255 ∨ TP = 4294967295 ∨ TP = 18446744073709551615 := by rw [← hTP]; exact top_cases _
  have hE : p + digN ((bytesN s).drop p) = p + D := by rw [hl, hD]
  rw [hlen, hV'] at hone
  obtain ⟨F, hF⟩ : ∃ F, p + D + x.size = F := ⟨_, rfl⟩
  have hdF : (l.drop D).drop x.size = (bytesN s).drop F := by rw [← hdE, List.drop_drop, hF]
  rw [hl]
  by_cases hle : V ≤ TP
  · by_cases hend : F = s.size
    · have hstop : ∀ c r, (l.drop D).drop x.size = c :: r → wordB c = false := by
        intro c r e; rw [hdF, hend, drop_size] at e; cases e
      obtain ⟨e1, e2⟩ := sfx_end (l.drop D) x hx hstop
      rw [e1, if_pos ⟨e2, by rw [hTP]; exact hle⟩, bytesN_length] at hone
      rw [hone]
      refine (xnum_end s p (p + D) F V TP x t hp h hE (by omega) (by omega) ht (by rw [hdE]; exact hx) hF (by omega) (by omega) hTP hTP2 hne hdg hV hle hend w).mono ?_
      rintro e w' ⟨rfl, hb⟩
      refine ⟨?_, hb⟩
      show _ = Ending.returned (foundOk 2 V p ((p + (D + x.size) : Nat) : Int) (strN (bytesN x)))
      rw [strN_bytesN, show ((p + (D + x.size) : Nat) : Int) = (F : Int) by omega]
    · have hlt : F < s.size := by omega
      have hcF := bytesN_drop s F hlt
      obtain ⟨d, hdd⟩ : ∃ d, (s[F]'hlt).toNat = d := ⟨_, rfl⟩
      rw [hdd] at hcF
      by_cases hw : wordB d = true
      · have e1 := sfx_more (l.drop D) x hx d _ (hdF.trans hcF) hw
        rw [e1, if_neg (by simp)] at hone
        rw [hone]
        refine (xnum_more s p (p + D) F V TP x t hp h hE (by omega) (by omega) ht (by rw [hdE]; exact hx) hF (by omega) (by omega) hTP hTP2 hne hdg hV hle hlt d hdd hw w).mono ?_
        rintro e w' ⟨rfl, hb⟩
        exact ⟨rfl, hb⟩
      · have hw' : wordB d = false := by simpa using hw
        have hstop : ∀ c r, (l.drop D).drop x.size = c :: r → wordB c = false := by
          intro c r e; rw [hdF, hcF] at e; obtain ⟨rfl, _⟩ := List.cons.inj e; exact hw'
        obtain ⟨e1, e2⟩ := sfx_end (l.drop D) x hx hstop
        rw [e1, if_pos ⟨e2, by rw [hTP]; exact hle⟩, bytesN_length] at hone
        rw [hone]
        refine (xnum_stop s p (p + D) F V TP x t hp h hE (by omega) (by omega) ht (by rw [hdE]; exact hx) hF (by omega) (by omega) hTP hTP2 hne hdg hV hle hlt d hdd hw' w).mono ?_
        rintro e w' ⟨rfl, hb⟩
        refine ⟨?_, hb⟩
        show _ = Ending.returned (foundOk 2 V p ((p + (D + x.size) : Nat) : Int) (strN (bytesN x)))
        rw [strN_bytesN, show ((p + (D + x.size) : Nat) : Int) = (F : Int) by omega]
  · have hno : oneN l = .error (0, 33) := by
      rw [hone]
      by_cases hstop : ∀ c r, (l.drop D).drop x.size = c :: r → wordB c = false
      · obtain ⟨e1, e2⟩ := sfx_end (l.drop D) x hx hstop
        rw [e1, if_neg (by rw [hTP]; exact fun q => hle q.2)]
      · have : ∃ c r, (l.drop D).drop x.size = c :: r ∧ wordB c = true := by
          cases hq : (l.drop D).drop x.size with
          | nil => exact absurd (fun c r e => by rw [hq] at e; cases e) hstop
          | cons c r =>
            refine ⟨c, r, rfl, ?_⟩
            cases hw : wordB c with
            | true => rfl
            | false => exact absurd (fun c' r' e => by rw [hq] at e; obtain ⟨rfl, _⟩ := List.cons.inj e; exact hw) hstop
        obtain ⟨c', r', e, hw⟩ := this
        rw [sfx_more (l.drop D) x hx c' r' e hw, if_neg (by simp)]
    rw [hno]
    refine (xnum_big s p (p + D) F V TP x t hp h hE (by omega) (by omega) ht (by rw [hdE]; exact hx) hF (by omega) (by omega) hTP hTP2 hne hdg hV hle w hL).mono ?_
    rintro e w' ⟨rfl, hb⟩
    exact ⟨rfl, hb⟩
theorem signW (l : List Nat) : firstW l signS = match signX l with | none => ⟨#[]⟩ | some y => strN y := by
  unfold firstW signX
  rw [← sign_same, List.find?_map]
  show (signS.find? ((fun x => hasB l x) ∘ bytesN)).getD ⟨#[]⟩ = _
  cases signS.find? ((fun x => hasB l x) ∘ bytesN) with
  | none => rfl
  | some y => show y = strN (bytesN y); rw [strN_bytesN]
theorem signS_size (j : Nat) : (signS.getD j ⟨#[]⟩).size ≤ 10 := by
  by_cases h : j < 31
  · have := sign_size j h; omega
  · rw [List.getD_eq_getElem?_getD, List.getElem?_eq_none (by show 31 ≤ j; omega)]; exact Nat.zero_le _
theorem signL_fact : ∀ y ∈ signL, 1 ≤ y.length ∧ y.length ≤ 2 ∧ (∀ c ∈ y, c < 256) := by decide
theorem sign_some {l y : List Nat} (h : signX l = some y) : hasB l y = true ∧ 1 ≤ y.length ∧ ¬ bytesN (strN y) = [] ∧ bytesN (strN y) = y := by
  unfold signX at h
  have h1 := List.find?_some h
  have h2 := signL_fact y (List.mem_of_find?_eq_some h)
  have h3 := bytesN_strN y h2.2.2
  refine ⟨h1, h2.1, ?_, h3⟩
  rw [h3]; intro e; rw [e] at h2; simp at h2
theorem signV_cells (w : World) (j : Nat) (h : j < 31) : (w.alloc (.cells signV 9)).cell? ⟨w.heap.size, j, none⟩ = some (.string (signS.getD j ⟨#[]⟩)) :=
  (cell_of_row _ _ j _ _ _ (heap_alloc_new _ _)).trans (signV_at j h)
theorem ext_bytes (s : ByteArray) (a b : Nat) (l : List Nat) (h : ((bytesN s).drop a).take (b - a) = l) : s.extract a b = strN l := extract_strN s a b l h
theorem xread_name (s : ByteArray) (p c E : Nat) (x : ByteArray) (R : Value) (hp : p < s.size) (h : s.size ≤ 1048576) (hc : (s[p]'hp).toNat = c) (HL : Hid (letterB c = true)) (HE : Hid (p + wordN ((bytesN s).drop p) = E)) (hpE : p ≤ E) (hEs : E ≤ s.size) (HX : Hid (s.extract p E = x)) (HR : Hid (foundOk 1 0 p E x = R)) (w : World) :
    Calls Tryz.prog 76 #[.string s, .int .i64 (p : Int)] w fun e w' => e = .returned R ∧ Below w.heap.size w w' := by
  obtain ⟨g, hg⟩ : ∃ g, g = w.heap.size := ⟨_, rfl⟩
  have HG : Hid (g = w.heap.size) := hg
  go_enter Tryz.func76, Tryz.ntmps76
  go_wp2_with fail
  refine (xis_any [1] (w.heap.size + 1) 1 c _ rfl (by omega) true (by rw [isB1]; exact HL.out) (kinds1s w _ 1 (by omega) 1 rfl _)).mono ?_
  rintro e wx ⟨rfl, rfl⟩
  obtain ⟨w1, hw1⟩ : ∃ w1, w1 = (w.alloc zeroF).alloc (.cells #[.int .u8 1] 71) := ⟨_, rfl⟩
  have HZ : Hid (ZK g w w1) := by unfold Hid; rw [hw1]; exact (ZK.new hg).alloc _
  unfold zeroF at hw1
  rw [← hw1, ← hg]
  clear hw1 hg
  go_wp2_with fail
  refine (xpast_any s p p E [1, 2] w1.heap.size 2 _ rfl (by omega) h rfl (by omega) (by rw [isB12]; exact HE.out) (kinds2 w1 1 2 (by omega) (by omega) 1 2 rfl rfl _)).mono ?_
  rintro e wx ⟨rfl, rfl⟩
  obtain ⟨w2, hw2⟩ : ∃ w2, w2 = w1.alloc (.cells #[.int .u8 1, .int .u8 2] 71) := ⟨_, rfl⟩
  have HZ2 : Hid (ZK g w w2) := by unfold Hid; rw [hw2]; exact HZ.out.alloc _
  rw [← hw2]
  clear hw2 HZ
  go_wp2_with fail
  refine (xtoken_as 1 s p E p E x rfl rfl hpE hEs h HX.out _).mono ?_
  rintro e w9 ⟨rfl, hb9⟩
  have hz9 : ZK g w w9 := HZ2.out.on hb9
  have HZ3 : Hid (ZK g w w9) := hz9
  clear hz9 hb9
  unfold foundOk
  have hblk := HZ3.out.1
  unfold zeroF at hblk
  have c0 : w9.cell? ⟨g, 0, none⟩ = some (.int .u8 0) := cell_of_row _ g 0 _ _ _ hblk
  have c1 : w9.cell? ⟨g, 1, none⟩ = some (.string ⟨#[]⟩) := cell_of_row _ g 1 _ _ _ hblk
  have c2 : w9.cell? ⟨g, 2, none⟩ = some (.int .u64 0) := cell_of_row _ g 2 _ _ _ hblk
  have c3 : w9.cell? ⟨g, 3, none⟩ = some (.int .i64 0) := cell_of_row _ g 3 _ _ _ hblk
  have c4 : w9.cell? ⟨g, 4, none⟩ = some (.int .i64 0) := cell_of_row _ g 4 _ _ _ hblk
  have c5 : w9.cell? ⟨g, 5, none⟩ = some (.int .i64 0) := cell_of_row _ g 5 _ _ _ hblk
  have c6 : w9.cell? ⟨g, 6, none⟩ = some (.int .i64 0) := cell_of_row _ g 6 _ _ _ hblk
  have f0 : ∀ j, w9.frozen? ⟨g, j, none⟩ = false := fun j => by simp [World.frozen?, hblk]
  have HBK : Hid (w9.heap[g]? = some (.cells #[.int .u8 0, .string ⟨#[]⟩, .int .u64 0, .int .i64 0, .int .i64 0, .int .i64 0, .int .i64 0] 79)) := hblk
  clear hblk
  go_wp2
  refine bodyPost_cell1 (g := g) (t := 79) rfl rfl rfl (set7_block _ _ _ _ _ _ _ _ _ _ _ _ _ _ _ _ _ _ HBK.out) Tryz.underlying79 rfl (by kernel_rfl) ?_
  exact ⟨by rw [← HR.out] <;> rfl, by rw [← HG.out]; exact set7_below HZ3.out.2.1 (Nat.le_refl _)⟩
theorem xread_num (s : ByteArray) (p c : Nat) (a0 : Int) (a1 : ByteArray) (a2 a3 a4 a5 a6 : Int) (R : Value) (hp : p < s.size) (h : s.size ≤ 1048576) (hc : (s[p]'hp).toNat = c) (HL : Hid (letterB c = false)) (HD : Hid (digitB c = true)) (HF : Hid (foundV p (oneN ((bytesN s).drop p)) = .agg #[.int .u8 a0, .string a1, .int .u64 a2, .int .i64 a3, .int .i64 a4, .int .i64 a5, .int .i64 a6])) (HR : Hid (.agg #[.int .u8 a0, .string a1, .int .u64 a2, .int .i64 a3, .int .i64 a4, .int .i64 a5, .int .i64 a6] = R)) (w : World) (HLD : Hid (Laid w)) :
    Calls Tryz.prog 76 #[.string s, .int .i64 (p : Int)] w fun e w' => e = .returned R ∧ Below w.heap.size w w' := by
  obtain ⟨g, hg⟩ : ∃ g, g = w.heap.size := ⟨_, rfl⟩
  have HG : Hid (g = w.heap.size) := hg
  go_enter Tryz.func76, Tryz.ntmps76
  go_wp2_with fail
  refine (xis_any [1] (w.heap.size + 1) 1 c _ rfl (by omega) false (by rw [isB1]; exact HL.out) (kinds1s w _ 1 (by omega) 1 rfl _)).mono ?_
  rintro e wx ⟨rfl, rfl⟩
  obtain ⟨w1, hw1⟩ : ∃ w1, w1 = (w.alloc zeroF).alloc (.cells #[.int .u8 1] 71) := ⟨_, rfl⟩
  have HZ : Hid (ZK g w w1) := by unfold Hid; rw [hw1]; exact (ZK.new hg).alloc _
  unfold zeroF at hw1
  rw [← hw1, ← hg]
  clear hw1 hg
  go_wp2_with fail
  refine (xis_any [2] w1.heap.size 1 c _ rfl (by omega) true (by rw [isB2]; exact HD.out) (kinds1 w1 2 (by omega) 2 rfl _)).mono ?_
  rintro e wx ⟨rfl, rfl⟩
  obtain ⟨w2, hw2⟩ : ∃ w2, w2 = w1.alloc (.cells #[.int .u8 2] 71) := ⟨_, rfl⟩
  have HZ2 : Hid (ZK g w w2) := by unfold Hid; rw [hw2]; exact HZ.out.alloc _
  rw [← hw2]
  clear hw2 HZ
  have HL2 : Hid (Laid w2) := HLD.out.below HZ2.out.2.1 (by rw [HG.out]; exact HLD.out.1)
  go_wp2_with fail
  refine (xnumber_as s p p c rfl hp h hc HD.out _ HL2.out).mono ?_
  rintro e w9 ⟨rfl, hb9⟩
  have hz9 : ZK g w w9 := HZ2.out.on hb9
  have HZ3 : Hid (ZK g w w9) := hz9
  clear hz9 hb9
  rw [HF.out]
  have hblk := HZ3.out.1
  unfold zeroF at hblk
  have c0 : w9.cell? ⟨g, 0, none⟩ = some (.int .u8 0) := cell_of_row _ g 0 _ _ _ hblk
  have c1 : w9.cell? ⟨g, 1, none⟩ = some (.string ⟨#[]⟩) := cell_of_row _ g 1 _ _ _ hblk
  have c2 : w9.cell? ⟨g, 2, none⟩ = some (.int .u64 0) := cell_of_row _ g 2 _ _ _ hblk
  have c3 : w9.cell? ⟨g, 3, none⟩ = some (.int .i64 0) := cell_of_row _ g 3 _ _ _ hblk
  have c4 : w9.cell? ⟨g, 4, none⟩ = some (.int .i64 0) := cell_of_row _ g 4 _ _ _ hblk
  have c5 : w9.cell? ⟨g, 5, none⟩ = some (.int .i64 0) := cell_of_row _ g 5 _ _ _ hblk
  have c6 : w9.cell? ⟨g, 6, none⟩ = some (.int .i64 0) := cell_of_row _ g 6 _ _ _ hblk
  have f0 : ∀ j, w9.frozen? ⟨g, j, none⟩ = false := fun j => by simp [World.frozen?, hblk]
  have HBK : Hid (w9.heap[g]? = some (.cells #[.int .u8 0, .string ⟨#[]⟩, .int .u64 0, .int .i64 0, .int .i64 0, .int .i64 0, .int .i64 0] 79)) := hblk
  clear hblk
  go_wp2
  refine bodyPost_cell1 (g := g) (t := 79) rfl rfl rfl (set7_block _ _ _ _ _ _ _ _ _ _ _ _ _ _ _ _ _ _ HBK.out) Tryz.underlying79 rfl (by kernel_rfl) ?_
  exact ⟨by rw [← HR.out] <;> rfl, by rw [← HG.out]; exact set7_below HZ3.out.2.1 (Nat.le_refl _)⟩
theorem xread_text (s : ByteArray) (p : Nat) (a0 : Int) (a1 : ByteArray) (a2 a3 a4 a5 a6 : Int) (R : Value) (hp : p < s.size) (h : s.size ≤ 1048576) (hc : (s[p]'hp).toNat = 34) (HF : Hid (textF p (T ((bytesN s).drop (p + 1))) = .agg #[.int .u8 a0, .string a1, .int .u64 a2, .int .i64 a3, .int .i64 a4, .int .i64 a5, .int .i64 a6])) (HR : Hid (.agg #[.int .u8 a0, .string a1, .int .u64 a2, .int .i64 a3, .int .i64 a4, .int .i64 a5, .int .i64 a6] = R)) (w : World) :
    Calls Tryz.prog 76 #[.string s, .int .i64 (p : Int)] w fun e w' => e = .returned R ∧ Below w.heap.size w w' := by
  have HL : Hid (letterB 34 = false) := rfl
  have HD : Hid (digitB 34 = false) := rfl
  obtain ⟨g, hg⟩ : ∃ g, g = w.heap.size := ⟨_, rfl⟩
  have HG : Hid (g = w.heap.size) := hg
  go_enter Tryz.func76, Tryz.ntmps76
  go_wp2_with fail
  refine (xis_any [1] (w.heap.size + 1) 1 34 _ rfl (by omega) false (by rw [isB1]; exact HL.out) (kinds1s w _ 1 (by omega) 1 rfl _)).mono ?_
  rintro e wx ⟨rfl, rfl⟩
  obtain ⟨w1, hw1⟩ : ∃ w1, w1 = (w.alloc zeroF).alloc (.cells #[.int .u8 1] 71) := ⟨_, rfl⟩
  have HZ : Hid (ZK g w w1) := by unfold Hid; rw [hw1]; exact (ZK.new hg).alloc _
  unfold zeroF at hw1
  rw [← hw1, ← hg]
  clear hw1 hg
  go_wp2_with fail
  refine (xis_any [2] w1.heap.size 1 34 _ rfl (by omega) false (by rw [isB2]; exact HD.out) (kinds1 w1 2 (by omega) 2 rfl _)).mono ?_
  rintro e wx ⟨rfl, rfl⟩
  obtain ⟨w2, hw2⟩ : ∃ w2, w2 = w1.alloc (.cells #[.int .u8 2] 71) := ⟨_, rfl⟩
  have HZ2 : Hid (ZK g w w2) := by unfold Hid; rw [hw2]; exact HZ.out.alloc _
  rw [← hw2]
  clear hw2 HZ
  go_wp2_with fail
  refine (xtext_as s p p _ rfl hp h HF.out _).mono ?_
  rintro e w9 ⟨rfl, hb9⟩
  have hz9 : ZK g w w9 := HZ2.out.on hb9
  have HZ3 : Hid (ZK g w w9) := hz9
  clear hz9 hb9
  have hblk := HZ3.out.1
  unfold zeroF at hblk
  have c0 : w9.cell? ⟨g, 0, none⟩ = some (.int .u8 0) := cell_of_row _ g 0 _ _ _ hblk
  have c1 : w9.cell? ⟨g, 1, none⟩ = some (.string ⟨#[]⟩) := cell_of_row _ g 1 _ _ _ hblk
  have c2 : w9.cell? ⟨g, 2, none⟩ = some (.int .u64 0) := cell_of_row _ g 2 _ _ _ hblk
  have c3 : w9.cell? ⟨g, 3, none⟩ = some (.int .i64 0) := cell_of_row _ g 3 _ _ _ hblk
  have c4 : w9.cell? ⟨g, 4, none⟩ = some (.int .i64 0) := cell_of_row _ g 4 _ _ _ hblk
  have c5 : w9.cell? ⟨g, 5, none⟩ = some (.int .i64 0) := cell_of_row _ g 5 _ _ _ hblk
  have c6 : w9.cell? ⟨g, 6, none⟩ = some (.int .i64 0) := cell_of_row _ g 6 _ _ _ hblk
  have f0 : ∀ j, w9.frozen? ⟨g, j, none⟩ = false := fun j => by simp [World.frozen?, hblk]
  have HBK : Hid (w9.heap[g]? = some (.cells #[.int .u8 0, .string ⟨#[]⟩, .int .u64 0, .int .i64 0, .int .i64 0, .int .i64 0, .int .i64 0] 79)) := hblk
  clear hblk
  go_wp2
  refine bodyPost_cell1 (g := g) (t := 79) rfl rfl rfl (set7_block _ _ _ _ _ _ _ _ _ _ _ _ _ _ _ _ _ _ HBK.out) Tryz.underlying79 rfl (by kernel_rfl) ?_
  exact ⟨by rw [← HR.out] <;> rfl, by rw [← HG.out]; exact set7_below HZ3.out.2.1 (Nat.le_refl _)⟩
theorem xread_sign (s : ByteArray) (p c F : Nat) (x : ByteArray) (R : Value) (hp : p < s.size) (h : s.size ≤ 1048576) (hc : (s[p]'hp).toNat = c) (HL : Hid (letterB c = false)) (HD : Hid (digitB c = false)) (hq : ((c : Int) == 34) = false)
    (HX : Hid (firstW ((bytesN s).drop p) signS = x)) (hxe : (x.toList == []) = false) (hxs : x.size ≤ 10) (hF : p + x.size = F) (hFs : F ≤ s.size) (HE : Hid (s.extract p F = x)) (HR : Hid (foundOk 4 0 p F x = R)) (w : World) :
    Calls Tryz.prog 76 #[.string s, .int .i64 (p : Int)] w fun e w' => e = .returned R ∧ Below w.heap.size w w' := by
  obtain ⟨u, hu⟩ : ∃ u, Hid (s.extract p s.size = u) := ⟨_, rfl⟩
  have hue : s.extract p s.size = u := hu.out
  have HUB : Hid (bytesN u = (bytesN s).drop p) := by unfold Hid; rw [← hue]; exact tail_bytes s p (by omega)
  have hus : u.size ≤ 1048576 := by rw [← hue, tail_size s p (by omega)]; omega
  have hFi : (p : Int) + (x.size : Int) = (F : Int) := by omega
  have hpF : p ≤ F := by omega
  clear hF
  obtain ⟨g, hg⟩ : ∃ g, g = w.heap.size := ⟨_, rfl⟩
  have HG : Hid (g = w.heap.size) := hg
  go_enter Tryz.func76, Tryz.ntmps76
  go_wp2_with fail
  refine (xis_any [1] (w.heap.size + 1) 1 c _ rfl (by omega) false (by rw [isB1]; exact HL.out) (kinds1s w _ 1 (by omega) 1 rfl _)).mono ?_
  rintro e wx ⟨rfl, rfl⟩
  obtain ⟨w1, hw1⟩ : ∃ w1, w1 = (w.alloc zeroF).alloc (.cells #[.int .u8 1] 71) := ⟨_, rfl⟩
  have HZ : Hid (ZK g w w1) := by unfold Hid; rw [hw1]; exact (ZK.new hg).alloc _
  unfold zeroF at hw1
  rw [← hw1, ← hg]
  clear hw1 hg
  go_wp2_with fail
  refine (xis_any [2] w1.heap.size 1 c _ rfl (by omega) false (by rw [isB2]; exact HD.out) (kinds1 w1 2 (by omega) 2 rfl _)).mono ?_
  rintro e wx ⟨rfl, rfl⟩
  obtain ⟨w2, hw2⟩ : ∃ w2, w2 = w1.alloc (.cells #[.int .u8 2] 71) := ⟨_, rfl⟩
  have HZ2 : Hid (ZK g w w2) := by unfold Hid; rw [hw2]; exact HZ.out.alloc _
  rw [← hw2]
  clear hw2 HZ
  go_wp2_with fail
  refine (xfirst_any u hus signS w2.heap.size 31 _ rfl (by omega) signS_size x (by rw [HUB.out]; exact HX.out) (signV_cells w2)).mono ?_
  rintro e wx ⟨rfl, rfl⟩
  have HZ4 : Hid (ZK g w (w2.alloc (.cells signV 9))) := HZ2.out.alloc _
  obtain ⟨w4, hw4⟩ : ∃ w4, w4 = w2.alloc (.cells signV 9) := ⟨_, rfl⟩
  rw [← hw4] at HZ4
  rw [← hw4]
  clear hw4 HZ2
  go_wp2_with fail
  refine (xtoken_as 4 s p F p F x rfl rfl hpF hFs h HE.out _).mono ?_
  rintro e w9 ⟨rfl, hb9⟩
  have hz9 : ZK g w w9 := HZ4.out.on hb9
  have HZ3 : Hid (ZK g w w9) := hz9
  clear hz9 hb9
  unfold foundOk
  have hblk := HZ3.out.1
  unfold zeroF at hblk
  have c0 : w9.cell? ⟨g, 0, none⟩ = some (.int .u8 0) := cell_of_row _ g 0 _ _ _ hblk
  have c1 : w9.cell? ⟨g, 1, none⟩ = some (.string ⟨#[]⟩) := cell_of_row _ g 1 _ _ _ hblk
  have c2 : w9.cell? ⟨g, 2, none⟩ = some (.int .u64 0) := cell_of_row _ g 2 _ _ _ hblk
  have c3 : w9.cell? ⟨g, 3, none⟩ = some (.int .i64 0) := cell_of_row _ g 3 _ _ _ hblk
  have c4 : w9.cell? ⟨g, 4, none⟩ = some (.int .i64 0) := cell_of_row _ g 4 _ _ _ hblk
  have c5 : w9.cell? ⟨g, 5, none⟩ = some (.int .i64 0) := cell_of_row _ g 5 _ _ _ hblk
  have c6 : w9.cell? ⟨g, 6, none⟩ = some (.int .i64 0) := cell_of_row _ g 6 _ _ _ hblk
  have f0 : ∀ j, w9.frozen? ⟨g, j, none⟩ = false := fun j => by simp [World.frozen?, hblk]
  have HBK : Hid (w9.heap[g]? = some (.cells #[.int .u8 0, .string ⟨#[]⟩, .int .u64 0, .int .i64 0, .int .i64 0, .int .i64 0, .int .i64 0] 79)) := hblk
  clear hblk
  go_wp2
  refine bodyPost_cell1 (g := g) (t := 79) rfl rfl rfl (set7_block _ _ _ _ _ _ _ _ _ _ _ _ _ _ _ _ _ _ HBK.out) Tryz.underlying79 rfl (by kernel_rfl) ?_
  exact ⟨by rw [← HR.out] <;> rfl, by rw [← HG.out]; exact set7_below HZ3.out.2.1 (Nat.le_refl _)⟩
theorem xread_none (s : ByteArray) (p c : Nat) (R : Value) (hp : p < s.size) (h : s.size ≤ 1048576) (hc : (s[p]'hp).toNat = c) (HL : Hid (letterB c = false)) (HD : Hid (digitB c = false)) (hq : ((c : Int) == 34) = false)
    (HX0 : Hid (firstW ((bytesN s).drop p) signS = ⟨#[]⟩)) (HR : Hid (foundNo p p 30 = R)) (w : World) :
    Calls Tryz.prog 76 #[.string s, .int .i64 (p : Int)] w fun e w' => e = .returned R ∧ Below w.heap.size w w' := by
  obtain ⟨u, hu⟩ : ∃ u, Hid (s.extract p s.size = u) := ⟨_, rfl⟩
  have hue : s.extract p s.size = u := hu.out
  have HUB : Hid (bytesN u = (bytesN s).drop p) := by unfold Hid; rw [← hue]; exact tail_bytes s p (by omega)
  have hus : u.size ≤ 1048576 := by rw [← hue, tail_size s p (by omega)]; omega
  obtain ⟨x, hx⟩ : ∃ x, Hid ((⟨#[]⟩ : ByteArray) = x) := ⟨_, rfl⟩
  have HX : Hid (firstW ((bytesN s).drop p) signS = x) := by unfold Hid; rw [← hx.out]; exact HX0.out
  have hxe : (x.toList == []) = true := by rw [list_is, ← hx.out]; rfl
  obtain ⟨g, hg⟩ : ∃ g, g = w.heap.size := ⟨_, rfl⟩
  have HG : Hid (g = w.heap.size) := hg
  go_enter Tryz.func76, Tryz.ntmps76
  go_wp2_with fail
  refine (xis_any [1] (w.heap.size + 1) 1 c _ rfl (by omega) false (by rw [isB1]; exact HL.out) (kinds1s w _ 1 (by omega) 1 rfl _)).mono ?_
  rintro e wx ⟨rfl, rfl⟩
  obtain ⟨w1, hw1⟩ : ∃ w1, w1 = (w.alloc zeroF).alloc (.cells #[.int .u8 1] 71) := ⟨_, rfl⟩
  have HZ : Hid (ZK g w w1) := by unfold Hid; rw [hw1]; exact (ZK.new hg).alloc _
  unfold zeroF at hw1
  rw [← hw1, ← hg]
  clear hw1 hg
  go_wp2_with fail
  refine (xis_any [2] w1.heap.size 1 c _ rfl (by omega) false (by rw [isB2]; exact HD.out) (kinds1 w1 2 (by omega) 2 rfl _)).mono ?_
  rintro e wx ⟨rfl, rfl⟩
  obtain ⟨w2, hw2⟩ : ∃ w2, w2 = w1.alloc (.cells #[.int .u8 2] 71) := ⟨_, rfl⟩
  have HZ2 : Hid (ZK g w w2) := by unfold Hid; rw [hw2]; exact HZ.out.alloc _
  rw [← hw2]
  clear hw2 HZ
  go_wp2_with fail
  refine (xfirst_any u hus signS w2.heap.size 31 _ rfl (by omega) signS_size x (by rw [HUB.out]; exact HX.out) (signV_cells w2)).mono ?_
  rintro e wx ⟨rfl, rfl⟩
  have HZ4 : Hid (ZK g w (w2.alloc (.cells signV 9))) := HZ2.out.alloc _
  obtain ⟨w4, hw4⟩ : ∃ w4, w4 = w2.alloc (.cells signV 9) := ⟨_, rfl⟩
  rw [← hw4] at HZ4
  rw [← hw4]
  clear hw4 HZ2
  go_wp2_with fail
  refine (xfault_any p p 30 _).mono ?_
  rintro e w9 ⟨rfl, hb9⟩
  have hz9 : ZK g w w9 := HZ4.out.on hb9
  have HZ3 : Hid (ZK g w w9) := hz9
  clear hz9 hb9
  unfold foundNo
  have hblk := HZ3.out.1
  unfold zeroF at hblk
  have c0 : w9.cell? ⟨g, 0, none⟩ = some (.int .u8 0) := cell_of_row _ g 0 _ _ _ hblk
  have c1 : w9.cell? ⟨g, 1, none⟩ = some (.string ⟨#[]⟩) := cell_of_row _ g 1 _ _ _ hblk
  have c2 : w9.cell? ⟨g, 2, none⟩ = some (.int .u64 0) := cell_of_row _ g 2 _ _ _ hblk
  have c3 : w9.cell? ⟨g, 3, none⟩ = some (.int .i64 0) := cell_of_row _ g 3 _ _ _ hblk
  have c4 : w9.cell? ⟨g, 4, none⟩ = some (.int .i64 0) := cell_of_row _ g 4 _ _ _ hblk
  have c5 : w9.cell? ⟨g, 5, none⟩ = some (.int .i64 0) := cell_of_row _ g 5 _ _ _ hblk
  have c6 : w9.cell? ⟨g, 6, none⟩ = some (.int .i64 0) := cell_of_row _ g 6 _ _ _ hblk
  have f0 : ∀ j, w9.frozen? ⟨g, j, none⟩ = false := fun j => by simp [World.frozen?, hblk]
  have HBK : Hid (w9.heap[g]? = some (.cells #[.int .u8 0, .string ⟨#[]⟩, .int .u64 0, .int .i64 0, .int .i64 0, .int .i64 0, .int .i64 0] 79)) := hblk
  clear hblk
  go_wp2
  refine bodyPost_cell1 (g := g) (t := 79) rfl rfl rfl (set7_block _ _ _ _ _ _ _ _ _ _ _ _ _ _ _ _ _ _ HBK.out) Tryz.underlying79 rfl (by kernel_rfl) ?_
  exact ⟨by rw [← HR.out] <;> rfl, by rw [← HG.out]; exact set7_below HZ3.out.2.1 (Nat.le_refl _)⟩
theorem foundV_shape (p : Nat) (o : Except (Nat × Nat) (Nat × List Nat × Nat × Nat)) : ∃ (a0 : Int) (a1 : ByteArray) (a2 a3 a4 a5 a6 : Int), foundV p o = .agg #[.int .u8 a0, .string a1, .int .u64 a2, .int .i64 a3, .int .i64 a4, .int .i64 a5, .int .i64 a6] := by
  match o with
  | .ok (kd, tx, n, len) => exact ⟨_, _, _, _, _, _, _, rfl⟩
  | .error (q, e) => exact ⟨_, _, _, _, _, _, _, rfl⟩
theorem textF_found (p : Nat) (r : List Nat) : textF p (T r) = foundV p (oneN (34 :: r)) := by
  rw [one_text]
  match T r with
  | .ok (out, m) => show foundOk 3 0 p ((p + 1 + m : Nat) : Int) (strN out) = foundOk 3 0 p ((p + (m + 1) : Nat) : Int) (strN out); rw [show p + 1 + m = p + (m + 1) by omega]
  | .error (none, e) => rfl
  | .error (some q, e) => show foundNo p ((p + 1 + q : Nat) : Int) e = foundNo p ((p + (q + 1) : Nat) : Int) e; rw [show p + 1 + q = p + (q + 1) by omega]
theorem xread_as (s : ByteArray) (y : Int) (p : Nat) (hy : y = p) (hp : p < s.size) (h : s.size ≤ 1048576) (w : World) (hL : Laid w) :
    Calls Tryz.prog 76 #[.string s, .int .i64 y] w fun e w' => e = .returned (foundV p (oneN ((bytesN s).drop p))) ∧ Below w.heap.size w w' := by
  subst hy
  have hdrop := bytesN_drop s p hp
  obtain ⟨c, hc⟩ : ∃ c, (s[p]'hp).toNat = c := ⟨_, rfl⟩
  rw [hc] at hdrop
  obtain ⟨l, hl⟩ : ∃ l, (bytesN s).drop p = l := ⟨_, rfl⟩
  have hll : l.length = s.size - p := by rw [← hl, List.length_drop, bytesN_length]
  have hlc : l = c :: (bytesN s).drop (p + 1) := hl.symm.trans hdrop
  by_cases h1 : letterB c = true
  · have hone : oneN l = .ok (1, l.takeWhile wordB, 0, wordN l) := by rw [hlc]; unfold oneN; simp only [h1, if_true]
    have hw := word_le l
    refine xread_name s p c (p + wordN l) (strN (l.takeWhile wordB)) _ hp h hc h1 (by unfold Hid; rw [hl]) (by omega) (by omega) ?_ ?_ w
    · exact ext_bytes s p _ _ (by rw [hl, Nat.add_sub_cancel_left]; exact takeWhile_take wordB l)
    · unfold Hid; rw [hl, hone]; rfl
  · have h1' : letterB c = false := by simpa using h1
    by_cases h2 : digitB c = true
    · obtain ⟨a0, a1, a2, a3, a4, a5, a6, hsh⟩ := foundV_shape p (oneN ((bytesN s).drop p))
      exact xread_num s p c a0 a1 a2 a3 a4 a5 a6 _ hp h hc h1' h2 hsh hsh.symm w hL
    · have h2' : digitB c = false := by simpa using h2
      by_cases h3 : c = 34
      · subst h3
        have hf : textF p (T ((bytesN s).drop (p + 1))) = foundV p (oneN ((bytesN s).drop p)) := by rw [textF_found, hdrop]
        obtain ⟨a0, a1, a2, a3, a4, a5, a6, hsh⟩ := foundV_shape p (oneN ((bytesN s).drop p))
        exact xread_text s p a0 a1 a2 a3 a4 a5 a6 _ hp h hc (hf.trans hsh) hsh.symm w
      · have hone := one_sign c ((bytesN s).drop (p + 1)) h1' h2' h3
        rw [← hlc] at hone
        have hq : ((c : Int) == 34) = false := by simp; omega
        have hsw := signW l
        cases hx : signX l with
        | none =>
          rw [hx] at hone hsw
          refine xread_none s p c _ hp h hc h1' h2' hq (by unfold Hid; rw [hl]; exact hsw) ?_ w
          unfold Hid; rw [hl, hone]; rfl
        | some z =>
          rw [hx] at hone hsw
          obtain ⟨hb, hz1, hz2, hz3⟩ := sign_some hx
          have hzs : (strN z).size = z.length := by rw [← bytesN_length, hz3]
          have hzl := congrArg List.length (has_split hb)
          rw [List.length_append] at hzl
          have hz10 : (strN z).size ≤ 10 := by
            have := signL_fact z (List.mem_of_find?_eq_some hx)
            omega
          refine xread_sign s p c (p + (strN z).size) (strN z) _ hp h hc h1' h2' hq (by unfold Hid; rw [hl]; exact hsw) ?_ hz10 rfl (by omega) ?_ ?_ w
          · rw [list_is]; simpa using hz2
          · refine ext_bytes s p _ _ ?_
            rw [hl, Nat.add_sub_cancel_left, hzs]
            unfold hasB at hb; simpa using hb
          · unfold Hid; rw [hl, hone, hzs]; rfl
end Go.Proofs.YtmhnbklchnnbaaaGreatDoor
